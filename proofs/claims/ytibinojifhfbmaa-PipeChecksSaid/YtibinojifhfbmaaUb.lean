/-
  Layer 4: lengths, weights, joints of strings.
-/
import Derived.Test.YtibinojifhfbmaaUa
set_option linter.unusedSimpArgs false
set_option linter.unusedVariables false
set_option maxRecDepth 100000
namespace Go.Proofs.Ytibinojifhfbmaa
open Go Go.Rx

abbrev spW {A : Go.Rx.Alg} : Go.Rx.SpL A := [(AW, Go.Rx.awakeS), (7, checkS), (8, rcheckS), (30, lengthFS), (32, rlengthFS), (13, wetS), (14, rwetS)]
theorem spW_ok {ov : Bool} {d : Nat} (hd : 400 ≤ d) : SpOK (fs := fsu) (ov := ov) Try.prog AW d spW := SpOK.cons awake_ok (SpOK.cons (checkS_ok (by omega)) (SpOK.cons (rcheckS_ok (by omega)) (SpOK.cons (lengthFS_ok (by omega)) (SpOK.cons (rlengthFS_ok (by omega)) (SpOK.cons (wetS_ok (by omega)) (SpOK.cons (rwetS_ok (by omega)) SpOK.nil))))))
theorem spW_aw {fs : Fs} {ov : Bool} : (spOf (A := stdA fs ov) spW AW).isSome = true := rfl
theorem length_eq (l : Ll) (KK : KS (stdA fsu true)) : sFunc Try.prog 30 (sCall Try.prog 30 (spOf spW) noLoop 20) noLoop 9 [.agg [.ls false 0 (Ll.len l)]] (lsMem 0 [([.int .i64, .int .i64, .int .i64, .int .i64, .int .i64, .int .i64, .int .i64, .int .i64, .int .i64], l)]) 1 KK =
  ((Ll.len l) = (Ll.len l) ∧ (cond (decide ((chkI l) ≠ (0 : Int)))
 (KK (.i .i64 (0 : Int)) (lsMem 0 [([.int .i64, .int .i64, .int .i64, .int .i64, .int .i64, .int .i64, .int .i64, .int .i64, .int .i64], l)]) 1 [])
 ((Ll.len l) = (Ll.len l) ∧ (cond (OkB l)
 (KK (.i .i64 (lenI l)) (lsMem 0 [([.int .i64, .int .i64, .int .i64, .int .i64, .int .i64, .int .i64, .int .i64, .int .i64, .int .i64], l)]) 1 [])
 False)))) := by kernel_rfl
theorem length_pure {m : Nat} (hm : 500 ≤ m) {H : Hp} {nx : Nat} {v_l : LV} {l : Ll} (hl_l : IsL H nx [.int .i64, .int .i64, .int .i64, .int .i64, .int .i64, .int .i64, .int .i64, .int .i64, .int .i64] l v_l) : Pure Try.prog AW m 9 [.agg [v_l]] H nx (.i .i64 (lengthI l)) := by
  obtain ⟨ν, n1, n2, n3, n4⟩ := ls_in (fs := fsu) (ov := true) (l := [([.int .i64, .int .i64, .int .i64, .int .i64, .int .i64, .int .i64, .int .i64, .int .i64, .int .i64], l)]) (lvs := [v_l]) 0 (fun i x lv e1 e2 => by
    cases i with
    | zero => simp at e1 e2; subst e1 e2; exact hl_l
    | succ i =>
      simp at e1) rfl
  refine pure_of (n := 20) (d := m - 21) (U := 30) (fs := fsu) (ov := true) (spW_ok (by omega)) spW_aw noLoop_ok (by decide) (by decide) (by omega) (args := [.agg [.ls false 0 (Ll.len l)]]) (M := lsMem 0 [([.int .i64, .int .i64, .int .i64, .int .i64, .int .i64, .int .i64, .int .i64, .int .i64, .int .i64], l)]) (snx := 1) ?_ (VSL.cons ⟨_, rfl, (VSL.cons (n4 0 _ _ rfl rfl) rfl)⟩ rfl) (hs_in n2 n3)
  rw [length_eq]
  have c0 : lengthI l = if chkI l = 0 then lenI l else 0 := rfl
  simp only [cond_iff, cond_not]
  refine ⟨by trivial, fun h => end_i (by rw [c0, if_neg h]), fun h => ?_⟩
  have h : chkI l = 0 := by omega
  have hk := (chk_ok h).1
  refine ⟨by trivial, ?_⟩
  rw [hk]
  exact end_i (by rw [c0, if_pos h])
abbrev lengthS {A : Go.Rx.Alg} : List (Go.Rx.SV A) → Go.Rx.SH A → Nat → Go.Rx.KS A → A.R := fun args_ M_ snx_ K_ => match args_ with
  | [.agg [x_l]] => (match Go.Rx.lsArg M_ [.int .i64, .int .i64, .int .i64, .int .i64, .int .i64, .int .i64, .int .i64, .int .i64, .int .i64] x_l with | some (l, n_l) => (A.need .eql n_l (A.len l) (K_ (.i .i64 (A.app 5 [l] [])) M_ snx_ [])) | none => A.fail "length")
  | _ => A.fail "length"
theorem lengthS_ok {ov : Bool} {d : Nat} (hd : 500 ≤ d) : SpecOK (fs := fsu) (ov := ov) Try.prog AW d 9 lengthS := by
  intro m_ hm_ args_ M_ snx_ K_ h_ ν_ largs_ H_ nx_ ha_ hM_
  unfold lengthS at h_
  split at h_
  · rename_i x_l
    obtain ⟨y1, r1, rfl, ⟨l1, rfl, ⟨v_l, r2, rfl, hx_l, rfl⟩⟩, rfl⟩ := ha_
    split at h_
    · rename_i l n_l q_l
      obtain ⟨e_l, h_⟩ := h_
      exact pure_got (length_pure (by omega) (lsArg_ok hM_ hx_l q_l e_l)) hM_ (v := .i .i64 _) rfl h_
    · exact h_.elim
  · exact h_.elim
theorem rlength_eq (l : Ll) (KK : KS (stdA fsu true)) : sFunc Try.prog 30 (sCall Try.prog 30 (spOf spW) noLoop 20) noLoop 10 [.agg [.ls false 0 (Ll.len l)]] (lsMem 0 [([.int .i64, .int .i64, .int .i64, .int .i64, .int .i64, .int .i64, .int .i64, .int .i64, .int .i64], l)]) 1 KK =
  ((Ll.len l) = (Ll.len l) ∧ (cond (decide ((chkI l) ≠ (0 : Int)))
 (KK (.i .i64 (0 : Int)) (lsMem 0 [([.int .i64, .int .i64, .int .i64, .int .i64, .int .i64, .int .i64, .int .i64, .int .i64, .int .i64], l)]) 1 [])
 ((Ll.len l) = (Ll.len l) ∧ (cond (OkB l)
 (KK (.i .i64 (lenI l)) (lsMem 0 [([.int .i64, .int .i64, .int .i64, .int .i64, .int .i64, .int .i64, .int .i64, .int .i64, .int .i64], l)]) 1 [])
 False)))) := by kernel_rfl
theorem rlength_pure {m : Nat} (hm : 500 ≤ m) {H : Hp} {nx : Nat} {v_l : LV} {l : Ll} (hl_l : IsL H nx [.int .i64, .int .i64, .int .i64, .int .i64, .int .i64, .int .i64, .int .i64, .int .i64, .int .i64] l v_l) : Pure Try.prog AW m 10 [.agg [v_l]] H nx (.i .i64 (lengthI l)) := by
  obtain ⟨ν, n1, n2, n3, n4⟩ := ls_in (fs := fsu) (ov := true) (l := [([.int .i64, .int .i64, .int .i64, .int .i64, .int .i64, .int .i64, .int .i64, .int .i64, .int .i64], l)]) (lvs := [v_l]) 0 (fun i x lv e1 e2 => by
    cases i with
    | zero => simp at e1 e2; subst e1 e2; exact hl_l
    | succ i =>
      simp at e1) rfl
  refine pure_of (n := 20) (d := m - 21) (U := 30) (fs := fsu) (ov := true) (spW_ok (by omega)) spW_aw noLoop_ok (by decide) (by decide) (by omega) (args := [.agg [.ls false 0 (Ll.len l)]]) (M := lsMem 0 [([.int .i64, .int .i64, .int .i64, .int .i64, .int .i64, .int .i64, .int .i64, .int .i64, .int .i64], l)]) (snx := 1) ?_ (VSL.cons ⟨_, rfl, (VSL.cons (n4 0 _ _ rfl rfl) rfl)⟩ rfl) (hs_in n2 n3)
  rw [rlength_eq]
  have c0 : lengthI l = if chkI l = 0 then lenI l else 0 := rfl
  simp only [cond_iff, cond_not]
  refine ⟨by trivial, fun h => end_i (by rw [c0, if_neg h]), fun h => ?_⟩
  have h : chkI l = 0 := by omega
  have hk := (chk_ok h).1
  refine ⟨by trivial, ?_⟩
  rw [hk]
  exact end_i (by rw [c0, if_pos h])
abbrev rlengthS {A : Go.Rx.Alg} : List (Go.Rx.SV A) → Go.Rx.SH A → Nat → Go.Rx.KS A → A.R := fun args_ M_ snx_ K_ => match args_ with
  | [.agg [x_l]] => (match Go.Rx.lsArg M_ [.int .i64, .int .i64, .int .i64, .int .i64, .int .i64, .int .i64, .int .i64, .int .i64, .int .i64] x_l with | some (l, n_l) => (A.need .eql n_l (A.len l) (K_ (.i .i64 (A.app 5 [l] [])) M_ snx_ [])) | none => A.fail "rlength")
  | _ => A.fail "rlength"
theorem rlengthS_ok {ov : Bool} {d : Nat} (hd : 500 ≤ d) : SpecOK (fs := fsu) (ov := ov) Try.prog AW d 10 rlengthS := by
  intro m_ hm_ args_ M_ snx_ K_ h_ ν_ largs_ H_ nx_ ha_ hM_
  unfold rlengthS at h_
  split at h_
  · rename_i x_l
    obtain ⟨y1, r1, rfl, ⟨l1, rfl, ⟨v_l, r2, rfl, hx_l, rfl⟩⟩, rfl⟩ := ha_
    split at h_
    · rename_i l n_l q_l
      obtain ⟨e_l, h_⟩ := h_
      exact pure_got (rlength_pure (by omega) (lsArg_ok hM_ hx_l q_l e_l)) hM_ (v := .i .i64 _) rfl h_
    · exact h_.elim
  · exact h_.elim
theorem wt_eq (mud i s : Int) (l : Ll) (T : Al (SV (stdA fsu true))) (M : Al (SO (stdA fsu true))) (KK : Ex → List (SV (stdA fsu true)) → List (SO (stdA fsu true)) → List Ll → Prop) : sCode Try.prog (sCall Try.prog 30 (spOf spW) noLoop 20) (noLoop 11) 30 (false :: [false, true, false, true, true, true]) (bodyAt Try.prog 11 [false, true, false, true, true, true]) (hdL (bodyAt Try.prog 11 [false, true, false, true, true, true]) T M 36 2 [(17, .ls false 0 (Ll.len l)), (18, .i .i64 (Ll.len l)), (1, .i .i64 mud)] [(0, .list 0 [.int .i64, .int .i64, .int .i64, .int .i64, .int .i64, .int .i64, .int .i64, .int .i64, .int .i64] false l)] [(19, .i .i64 i), (5, .i .i64 s)] [] [] [] []) (outL 2 (tsOf [19, 5] []) [] [] [] KK) =
  (cond (decide (i < (Ll.len l)))
 ((0 : Int) ≤ i ∧ (i < (Ll.len l) ∧ (i < (Ll.len l) ∧ (InK .i64 ((wetI (Ll.get l i 2) (Ll.get l i 3) mud) * (Ll.get l i 0)) ∧ (InK .i64 (((wetI (Ll.get l i 2) (Ll.get l i 3) mud) * (Ll.get l i 0)) * (Ll.get l i 1)) ∧ (InK .i64 (s + (((wetI (Ll.get l i 2) (Ll.get l i 3) mud) * (Ll.get l i 0)) * (Ll.get l i 1))) ∧ (InK .i64 (i + (1 : Int)) ∧ (KK .normal [(.i .i64 (i + (1 : Int))), (.i .i64 (s + (((wetI (Ll.get l i 2) (Ll.get l i 3) mud) * (Ll.get l i 0)) * (Ll.get l i 1))))] [] []))))))))
 (KK (.exit 0) [(.i .i64 i), (.i .i64 s)] [] [])) := by kernel_rfl
theorem wt_go (mud : Int) (l : Ll) (i : Int) (s : Int) (i_0 : Int) (s_0 : Int) (r1 : i_0 = (0 : Int)) (r2 : s_0 = (0 : Int)) (T : Al (SV (stdA fsu true))) (M : Al (SO (stdA fsu true))) (KK : Ex → List (SV (stdA fsu true)) → List (SO (stdA fsu true)) → List Ll → Prop) (p1 : (OkB l) = true) (p2 : (0 : Int) ≤ mud) (p3 : mud ≤ (40000 : Int)) (hI : 0 ≤ i ∧ i ≤ Ll.len l ∧ s = sumI (tubeWt l mud) i.toNat) (hn : ∀ (i' : Int) (s' : Int), 0 ≤ i' ∧ i' ≤ Ll.len l ∧ s' = sumI (tubeWt l mud) i'.toNat → (24 - i').toNat < (24 - i).toNat → KK .normal [.i .i64 i', .i .i64 s'] [] []) (hx1 : KK (.exit 0) [.i .i64 (Ll.len l), .i .i64 (sumI (tubeWt l mud) l.length)] [] []) :
    sCode Try.prog (sCall Try.prog 30 (spOf spW) noLoop 20) (noLoop 11) 30 (false :: [false, true, false, true, true, true]) (bodyAt Try.prog 11 [false, true, false, true, true, true]) (hdL (bodyAt Try.prog 11 [false, true, false, true, true, true]) T M 36 2 [(17, .ls false 0 (Ll.len l)), (18, .i .i64 (Ll.len l)), (1, .i .i64 mud)] [(0, .list 0 [.int .i64, .int .i64, .int .i64, .int .i64, .int .i64, .int .i64, .int .i64, .int .i64, .int .i64] false l)] [(19, .i .i64 i), (5, .i .i64 s)] [] [] [] []) (outL 2 (tsOf [19, 5] []) [] [] [] KK) := by
  refine Eq.mpr (wt_eq mud i s l T M KK) ?_
  have hl : Ll.len l = (l.length : Int) := rfl
  obtain ⟨o1, o2⟩ := ok_of p1
  obtain ⟨i0, i1, rfl⟩ := hI
  by_cases h : i < Ll.len l
  · rw [decide_eq_true h]
    have ht := fbad_ok i0 (show i < fbad l by omega)
    have hb := wt_bd ht p2 p3
    have hb2 := len_bd ht
    have hq := sumI_bd (f := tubeWt l mud) (A := -64000000000000) (B := 64000000000000) i.toNat fun j a b => (wt_bd (fbad_ok a (show j < fbad l by omega)) p2 p3).2
    have hs := sumI_succ (tubeWt l mud) i0
    have e : wetI (Ll.get l i 2) (Ll.get l i 3) mud * Ll.get l i 0 * Ll.get l i 1 = tubeWt l mud i := rfl
    have e2 : Ll.get l i 0 * Ll.get l i 1 * wetI (Ll.get l i 2) (Ll.get l i 3) mud = tubeWt l mud i := by rw [← e]; grind
    have e3 : Ll.get l i 0 * Ll.get l i 1 = tubeLen l i := rfl
    have hn' := hn (i + 1) _ ⟨by omega, by omega, rfl⟩ (by omega)
    rw [hs] at hn'
    simp only [InK64, e, e2]
    rw [e3] at *
    first
      | exact ⟨i0, h, h, by omega, by omega, by omega, by omega, hn'⟩
      | exact ⟨i0, h, h, i0, h, h, by omega, i0, h, h, by omega, by omega, by omega, hn'⟩
  · rw [decide_eq_false h]
    obtain rfl : i = Ll.len l := by omega
    exact hx1
abbrev wtF {A : Go.Rx.Alg} : Code → Go.Rx.SS A → (Go.Rx.Ex → Go.Rx.SS A → A.R) → A.R := fun c_ s_ K_ => match s_.T.get 17, s_.T.get 18, s_.T.get 1, s_.H.get 0, s_.T.get 19, s_.T.get 5 with
  | some (.ls false 0 m1), some (.i .i64 m2), some (.i .i64 mud), some (.list t3 k3 false l), some (.i .i64 i), some (.i .i64 s) => bif (((Nat.beq s_.N 36 && Nat.beq s_.nx 2) && Nat.beq t3 0) && decide (k3 = [.int .i64, .int .i64, .int .i64, .int .i64, .int .i64, .int .i64, .int .i64, .int .i64, .int .i64])) then (A.need .eql m1 (A.len l) (A.need .eql m2 (A.len l) (A.need .eql i (A.lit 0) (A.need .eql s (A.lit 0) (A.br (A.appB 32 [l] []) (fun _ => (A.need .leq (A.lit 0) mud (A.need .leq mud (A.lit 40000) (K_ (.exit 0) (Go.Rx.hdL c_ s_.T (Go.Rx.kills [] s_.H) 36 2 [(17, .ls false 0 (A.len l)), (18, .i .i64 (A.len l)), (1, .i .i64 mud)] [(0, .list 0 [.int .i64, .int .i64, .int .i64, .int .i64, .int .i64, .int .i64, .int .i64, .int .i64, .int .i64] false l)] [(19, .i .i64 (A.len l)), (5, .i .i64 (A.app 2 [l] [mud]))] [] [] [] (Go.Rx.addW ([] ++ []) s_.wr)))))) (fun _ => A.fail "pre")))))) else A.fail "frame of wt"
  | _, _, _, _, _, _ => A.fail "wt"
theorem wtF_ok {d : Nat} (hd : 500 ≤ d) : LoopOK (fs := fsu) (ov := true) Try.prog AW d 11 [false, true, false, true, true, true] wtF := by
  intro m_ hm_ fn_ c0_ hfn_ hb_ c_ ro_ hc_ s_ K_ W_ ν_ S_ h_ hs_
  obtain rfl := body_of hfn_ hb_ hc_
  simp only [wtF] at h_
  split at h_
  · rename_i m1_0 m2_0 mud_0 t3 k3 l_0 i_0_0 s_0_0 g0 g1 g2 g3 g4 g5
    obtain ⟨m1, rfl⟩ : ∃ q : Int, q = m1_0 := ⟨m1_0, rfl⟩
    obtain ⟨m2, rfl⟩ : ∃ q : Int, q = m2_0 := ⟨m2_0, rfl⟩
    obtain ⟨mud, rfl⟩ : ∃ q : Int, q = mud_0 := ⟨mud_0, rfl⟩
    obtain ⟨l, rfl⟩ : ∃ q : Ll, q = l_0 := ⟨l_0, rfl⟩
    obtain ⟨i_0, rfl⟩ : ∃ q : Int, q = i_0_0 := ⟨i_0_0, rfl⟩
    obtain ⟨s_0, rfl⟩ : ∃ q : Int, q = s_0_0 := ⟨s_0_0, rfl⟩
    obtain ⟨T_, FN_, M_, snx_, wr_⟩ := s_
    have hN : (((Nat.beq FN_ 36 && Nat.beq snx_ 2) && Nat.beq t3 0) && decide (k3 = [.int .i64, .int .i64, .int .i64, .int .i64, .int .i64, .int .i64, .int .i64, .int .i64, .int .i64])) = true := by
      cases hq : ((((Nat.beq FN_ 36 && Nat.beq snx_ 2) && Nat.beq t3 0) && decide (k3 = [.int .i64, .int .i64, .int .i64, .int .i64, .int .i64, .int .i64, .int .i64, .int .i64, .int .i64])) : Bool) with
      | true => rfl
      | false => (rw [hq] at h_; exact h_.elim)
    rw [hN, cond_true] at h_
    simp only [Bool.and_eq_true, beq_iff, decide_eq_true_eq] at hN
    obtain ⟨⟨⟨rfl, rfl⟩, rfl⟩, rfl⟩ := hN
    obtain ⟨q0, h_⟩ := h_
    obtain rfl : m1 = (Ll.len l) := q0
    obtain ⟨q0, h_⟩ := h_
    obtain rfl : m2 = (Ll.len l) := q0
    obtain ⟨q1, h_⟩ := h_
    have q1 : i_0 = (0 : Int) := q1
    obtain ⟨q2, h_⟩ := h_
    have q2 : s_0 = (0 : Int) := q2
    obtain ⟨q3, h_⟩ := br_pre (fs := fsu) (ov := true) h_
    have q3 : (OkB l) = true := q3
    obtain ⟨q4, h_⟩ := h_
    have q4 : (0 : Int) ≤ mud := q4
    obtain ⟨q5, h_⟩ := h_
    have q5 : mud ≤ (40000 : Int) := q5
    replace h_ : K_ (.exit 0) (hdL (bodyAt Try.prog 11 [false, true, false, true, true, true]) T_ (kills [] M_) 36 2 [(17, .ls false 0 (Ll.len l)), (18, .i .i64 (Ll.len l)), (1, .i .i64 mud)] [(0, .list 0 [.int .i64, .int .i64, .int .i64, .int .i64, .int .i64, .int .i64, .int .i64, .int .i64, .int .i64] false l)] [(19, .i .i64 (Ll.len l)), (5, .i .i64 (sumI (tubeWt l mud) l.length))] [] [] [] (addW ([] ++ []) wr_)) := h_
    have hx1 : K_ (.exit 0) (hdL (bodyAt Try.prog 11 [false, true, false, true, true, true]) T_ (kills [] M_) 36 2 [(17, .ls false 0 (Ll.len l)), (18, .i .i64 (Ll.len l)), (1, .i .i64 mud)] [(0, .list 0 [.int .i64, .int .i64, .int .i64, .int .i64, .int .i64, .int .i64, .int .i64, .int .i64, .int .i64] false l)] [(19, .i .i64 (Ll.len l)), (5, .i .i64 (sumI (tubeWt l mud) l.length))] [] [] [] (addW ([] ++ []) wr_)) := by
      have h2 := h_
      exact h2
    refine loop_ruleL (fs := fsu) (ov := true) (s := ⟨T_, 36, M_, 2, wr_⟩) (X := Int × Int) (B := []) (mv := []) (kt := [(17, .ls false 0 (Ll.len l)), (18, .i .i64 (Ll.len l)), (1, .i .i64 mud)]) (kr := [(0, .list 0 [.int .i64, .int .i64, .int .i64, .int .i64, .int .i64, .int .i64, .int .i64, .int .i64, .int .i64] false l)]) (ty := []) (x := (i_0, s_0))
      (Inv := (fun x : Int × Int => match x with | (i, s) => 0 ≤ i ∧ i ≤ Ll.len l ∧ s = sumI (tubeWt l mud) i.toNat)) (μ := (fun x : Int × Int => match x with | (i, s) => (24 - i).toNat)) (ts := tsOf [19, 5] []) (sl := (fun x : Int × Int => match x with | (i, s) => [.i .i64 i, .i .i64 s])) (bl := (fun x : Int × Int => match x with | (i, s) => [])) (ll := (fun x : Int × Int => match x with | (i, s) => [])) (Q := fun e_ vs_ os_ hs_ => K_ e_ (hdL (bodyAt Try.prog 11 [false, true, false, true, true, true]) T_ (kills [] M_) 36 2 [(17, .ls false 0 (Ll.len l)), (18, .i .i64 (Ll.len l)), (1, .i .i64 mud)] [(0, .list 0 [.int .i64, .int .i64, .int .i64, .int .i64, .int .i64, .int .i64, .int .i64, .int .i64, .int .i64] false l)] (((tsOf [19, 5] []) e_).zip vs_) ([].zip os_) [] hs_ (addW ([] ++ []) wr_)))
      (L := LL) (U := 30) (cs := sCall Try.prog 30 (spOf spW) noLoop 20) (call := CN Try.prog AW m_) (lp := noLoop 11) (root := c0_) (p := [false, true, false, true, true, true])
      (show CallSOK _ _ from by
        have := sCall_ok (P := Try.prog) (d := m_ - 20) (U := 30) (lp := noLoop) (spW_ok (ov := true) (d := m_ - 20) (by omega)) (spW_aw (fs := fsu) (ov := true)) (noLoop_ok) (by decide) 20
        rwa [show 20 + (m_ - 20) = m_ by omega] at this) (fun p f h => by cases h) (by decide) hc_
      (fun x o ho => by cases ho)
      (fun x hx => by cases hx) (fun x hx => by cases hx) (fun x hx => by cases hx)
      (fun x hx => by
        simp only [List.mem_cons, List.not_mem_nil, or_false] at hx
        rcases hx with rfl | rfl | rfl
        · exact g0
        · exact g1
        · exact g2) (fun x hx => by
        simp only [List.mem_cons, List.not_mem_nil, or_false] at hx
        rcases hx with rfl
        · exact ⟨g3, by simp⟩) ?_ (fun _ _ _ _ _ h => h) ?_ ?_ ?_ hs_
    · rintro ⟨i, s⟩ hI
      exact wt_go mud l i s i_0 s_0 q1 q2 T_ (kills [] M_) _ q3 q4 q5 hI (fun i' s' ha hb => ⟨(i', s'), ha, hb, rfl, rfl, rfl⟩) (⟨by simp [SO.mine], hx1⟩)
    · show 0 ≤ i_0 ∧ i_0 ≤ Ll.len l ∧ s_0 = sumI (tubeWt l mud) i_0.toNat
      exact ⟨by omega, by have : (0 : Int) ≤ Ll.len l := Int.natCast_nonneg _; omega, by rw [q1, q2]; rfl⟩
    · show (24 - i_0).toNat < LL
      exact Nat.lt_of_le_of_lt (show _ ≤ 1000 by omega) (by decide)
    · exact ⟨⟨[.i .i64 i_0, .i .i64 s_0], [], [], [], by simp [gets, tsOf, g0, g1, g2, g3, g4, g5], by simp [gets, g0, g1, g2, g3, g4, g5], rfl, rfl, by simp [listsOf] <;> rfl⟩⟩
  · exact h_.elim
abbrev lpWt {A : Go.Rx.Alg} : Nat → Go.Rx.LoopS A := Go.Rx.lpOf [(11, [false, true, false, true, true, true], wtF)]
theorem lpWt_ok {d : Nat} (hd : 500 ≤ d) : LoopsAll (fs := fsu) (ov := true) Try.prog AW d lpWt := lpOf_ok fun x hx => by
  simp only [List.mem_cons, List.not_mem_nil, or_false] at hx
  rcases hx with rfl
  · exact wtF_ok (by omega)
theorem rwt_eq (mud i s : Int) (l : Ll) (T : Al (SV (stdA fsu true))) (M : Al (SO (stdA fsu true))) (KK : Ex → List (SV (stdA fsu true)) → List (SO (stdA fsu true)) → List Ll → Prop) : sCode Try.prog (sCall Try.prog 30 (spOf spW) noLoop 20) (noLoop 12) 30 (false :: [false, true, false, true, true, true]) (bodyAt Try.prog 12 [false, true, false, true, true, true]) (hdL (bodyAt Try.prog 12 [false, true, false, true, true, true]) T M 46 2 [(2, .p 1 0), (1, .i .i64 mud)] [(0, .list 0 [.int .i64, .int .i64, .int .i64, .int .i64, .int .i64, .int .i64, .int .i64, .int .i64, .int .i64] false l), (1, .row 24 [.ls false 0 (Ll.len l)])] [(6, .i .i64 i), (5, .i .i64 s)] [] [] [] []) (outL 2 (tsOf [6, 5] []) [] [] [] KK) =
  (cond (decide (i < (Ll.len l)))
 ((0 : Int) ≤ i ∧ (i < (Ll.len l) ∧ (i < (Ll.len l) ∧ ((0 : Int) ≤ i ∧ (i < (Ll.len l) ∧ (i < (Ll.len l) ∧ (InK .i64 ((Ll.get l i 0) * (Ll.get l i 1)) ∧ ((0 : Int) ≤ i ∧ (i < (Ll.len l) ∧ (i < (Ll.len l) ∧ (InK .i64 (((Ll.get l i 0) * (Ll.get l i 1)) * (wetI (Ll.get l i 2) (Ll.get l i 3) mud)) ∧ (InK .i64 (s + (((Ll.get l i 0) * (Ll.get l i 1)) * (wetI (Ll.get l i 2) (Ll.get l i 3) mud))) ∧ (InK .i64 (i + (1 : Int)) ∧ (KK .normal [(.i .i64 (i + (1 : Int))), (.i .i64 (s + (((Ll.get l i 0) * (Ll.get l i 1)) * (wetI (Ll.get l i 2) (Ll.get l i 3) mud))))] [] []))))))))))))))
 (KK (.exit 0) [(.i .i64 i), (.i .i64 s)] [] [])) := by kernel_rfl
theorem rwt_go (mud : Int) (l : Ll) (i : Int) (s : Int) (i_0 : Int) (s_0 : Int) (r1 : i_0 = (0 : Int)) (r2 : s_0 = (0 : Int)) (T : Al (SV (stdA fsu true))) (M : Al (SO (stdA fsu true))) (KK : Ex → List (SV (stdA fsu true)) → List (SO (stdA fsu true)) → List Ll → Prop) (p1 : (OkB l) = true) (p2 : (0 : Int) ≤ mud) (p3 : mud ≤ (40000 : Int)) (hI : 0 ≤ i ∧ i ≤ Ll.len l ∧ s = sumI (tubeWt l mud) i.toNat) (hn : ∀ (i' : Int) (s' : Int), 0 ≤ i' ∧ i' ≤ Ll.len l ∧ s' = sumI (tubeWt l mud) i'.toNat → (24 - i').toNat < (24 - i).toNat → KK .normal [.i .i64 i', .i .i64 s'] [] []) (hx1 : KK (.exit 0) [.i .i64 (Ll.len l), .i .i64 (sumI (tubeWt l mud) l.length)] [] []) :
    sCode Try.prog (sCall Try.prog 30 (spOf spW) noLoop 20) (noLoop 12) 30 (false :: [false, true, false, true, true, true]) (bodyAt Try.prog 12 [false, true, false, true, true, true]) (hdL (bodyAt Try.prog 12 [false, true, false, true, true, true]) T M 46 2 [(2, .p 1 0), (1, .i .i64 mud)] [(0, .list 0 [.int .i64, .int .i64, .int .i64, .int .i64, .int .i64, .int .i64, .int .i64, .int .i64, .int .i64] false l), (1, .row 24 [.ls false 0 (Ll.len l)])] [(6, .i .i64 i), (5, .i .i64 s)] [] [] [] []) (outL 2 (tsOf [6, 5] []) [] [] [] KK) := by
  refine Eq.mpr (rwt_eq mud i s l T M KK) ?_
  have hl : Ll.len l = (l.length : Int) := rfl
  obtain ⟨o1, o2⟩ := ok_of p1
  obtain ⟨i0, i1, rfl⟩ := hI
  by_cases h : i < Ll.len l
  · rw [decide_eq_true h]
    have ht := fbad_ok i0 (show i < fbad l by omega)
    have hb := wt_bd ht p2 p3
    have hb2 := len_bd ht
    have hq := sumI_bd (f := tubeWt l mud) (A := -64000000000000) (B := 64000000000000) i.toNat fun j a b => (wt_bd (fbad_ok a (show j < fbad l by omega)) p2 p3).2
    have hs := sumI_succ (tubeWt l mud) i0
    have e : wetI (Ll.get l i 2) (Ll.get l i 3) mud * Ll.get l i 0 * Ll.get l i 1 = tubeWt l mud i := rfl
    have e2 : Ll.get l i 0 * Ll.get l i 1 * wetI (Ll.get l i 2) (Ll.get l i 3) mud = tubeWt l mud i := by rw [← e]; grind
    have e3 : Ll.get l i 0 * Ll.get l i 1 = tubeLen l i := rfl
    have hn' := hn (i + 1) _ ⟨by omega, by omega, rfl⟩ (by omega)
    rw [hs] at hn'
    simp only [InK64, e, e2]
    rw [e3] at *
    first
      | exact ⟨i0, h, h, by omega, by omega, by omega, by omega, hn'⟩
      | exact ⟨i0, h, h, i0, h, h, by omega, i0, h, h, by omega, by omega, by omega, hn'⟩
  · rw [decide_eq_false h]
    obtain rfl : i = Ll.len l := by omega
    exact hx1
abbrev rwtF {A : Go.Rx.Alg} : Code → Go.Rx.SS A → (Go.Rx.Ex → Go.Rx.SS A → A.R) → A.R := fun c_ s_ K_ => match s_.T.get 2, s_.T.get 1, s_.H.get 0, s_.H.get 1, s_.T.get 6, s_.T.get 5 with
  | some (.p 1 0), some (.i .i64 mud), some (.list t1 k1 false l), some (.row t2 [.ls false 0 m3]), some (.i .i64 i), some (.i .i64 s) => bif ((((Nat.beq s_.N 46 && Nat.beq s_.nx 2) && Nat.beq t1 0) && decide (k1 = [.int .i64, .int .i64, .int .i64, .int .i64, .int .i64, .int .i64, .int .i64, .int .i64, .int .i64])) && Nat.beq t2 24) then (A.need .eql m3 (A.len l) (A.need .eql i (A.lit 0) (A.need .eql s (A.lit 0) (A.br (A.appB 32 [l] []) (fun _ => (A.need .leq (A.lit 0) mud (A.need .leq mud (A.lit 40000) (K_ (.exit 0) (Go.Rx.hdL c_ s_.T (Go.Rx.kills [] s_.H) 46 2 [(2, .p 1 0), (1, .i .i64 mud)] [(0, .list 0 [.int .i64, .int .i64, .int .i64, .int .i64, .int .i64, .int .i64, .int .i64, .int .i64, .int .i64] false l), (1, .row 24 [.ls false 0 (A.len l)])] [(6, .i .i64 (A.len l)), (5, .i .i64 (A.app 2 [l] [mud]))] [] [] [] (Go.Rx.addW ([] ++ []) s_.wr)))))) (fun _ => A.fail "pre"))))) else A.fail "frame of rwt"
  | _, _, _, _, _, _ => A.fail "rwt"
theorem rwtF_ok {d : Nat} (hd : 500 ≤ d) : LoopOK (fs := fsu) (ov := true) Try.prog AW d 12 [false, true, false, true, true, true] rwtF := by
  intro m_ hm_ fn_ c0_ hfn_ hb_ c_ ro_ hc_ s_ K_ W_ ν_ S_ h_ hs_
  obtain rfl := body_of hfn_ hb_ hc_
  simp only [rwtF] at h_
  split at h_
  · rename_i mud_0 t1 k1 l_0 t2 m3_0 i_0_0 s_0_0 g0 g1 g2 g3 g4 g5
    obtain ⟨mud, rfl⟩ : ∃ q : Int, q = mud_0 := ⟨mud_0, rfl⟩
    obtain ⟨l, rfl⟩ : ∃ q : Ll, q = l_0 := ⟨l_0, rfl⟩
    obtain ⟨m3, rfl⟩ : ∃ q : Int, q = m3_0 := ⟨m3_0, rfl⟩
    obtain ⟨i_0, rfl⟩ : ∃ q : Int, q = i_0_0 := ⟨i_0_0, rfl⟩
    obtain ⟨s_0, rfl⟩ : ∃ q : Int, q = s_0_0 := ⟨s_0_0, rfl⟩
    obtain ⟨T_, FN_, M_, snx_, wr_⟩ := s_
    have hN : ((((Nat.beq FN_ 46 && Nat.beq snx_ 2) && Nat.beq t1 0) && decide (k1 = [.int .i64, .int .i64, .int .i64, .int .i64, .int .i64, .int .i64, .int .i64, .int .i64, .int .i64])) && Nat.beq t2 24) = true := by
      cases hq : (((((Nat.beq FN_ 46 && Nat.beq snx_ 2) && Nat.beq t1 0) && decide (k1 = [.int .i64, .int .i64, .int .i64, .int .i64, .int .i64, .int .i64, .int .i64, .int .i64, .int .i64])) && Nat.beq t2 24) : Bool) with
      | true => rfl
      | false => (rw [hq] at h_; exact h_.elim)
    rw [hN, cond_true] at h_
    simp only [Bool.and_eq_true, beq_iff, decide_eq_true_eq] at hN
    obtain ⟨⟨⟨⟨rfl, rfl⟩, rfl⟩, rfl⟩, rfl⟩ := hN
    obtain ⟨q0, h_⟩ := h_
    obtain rfl : m3 = (Ll.len l) := q0
    obtain ⟨q1, h_⟩ := h_
    have q1 : i_0 = (0 : Int) := q1
    obtain ⟨q2, h_⟩ := h_
    have q2 : s_0 = (0 : Int) := q2
    obtain ⟨q3, h_⟩ := br_pre (fs := fsu) (ov := true) h_
    have q3 : (OkB l) = true := q3
    obtain ⟨q4, h_⟩ := h_
    have q4 : (0 : Int) ≤ mud := q4
    obtain ⟨q5, h_⟩ := h_
    have q5 : mud ≤ (40000 : Int) := q5
    replace h_ : K_ (.exit 0) (hdL (bodyAt Try.prog 12 [false, true, false, true, true, true]) T_ (kills [] M_) 46 2 [(2, .p 1 0), (1, .i .i64 mud)] [(0, .list 0 [.int .i64, .int .i64, .int .i64, .int .i64, .int .i64, .int .i64, .int .i64, .int .i64, .int .i64] false l), (1, .row 24 [.ls false 0 (Ll.len l)])] [(6, .i .i64 (Ll.len l)), (5, .i .i64 (sumI (tubeWt l mud) l.length))] [] [] [] (addW ([] ++ []) wr_)) := h_
    have hx1 : K_ (.exit 0) (hdL (bodyAt Try.prog 12 [false, true, false, true, true, true]) T_ (kills [] M_) 46 2 [(2, .p 1 0), (1, .i .i64 mud)] [(0, .list 0 [.int .i64, .int .i64, .int .i64, .int .i64, .int .i64, .int .i64, .int .i64, .int .i64, .int .i64] false l), (1, .row 24 [.ls false 0 (Ll.len l)])] [(6, .i .i64 (Ll.len l)), (5, .i .i64 (sumI (tubeWt l mud) l.length))] [] [] [] (addW ([] ++ []) wr_)) := by
      have h2 := h_
      exact h2
    refine loop_ruleL (fs := fsu) (ov := true) (s := ⟨T_, 46, M_, 2, wr_⟩) (X := Int × Int) (B := []) (mv := []) (kt := [(2, .p 1 0), (1, .i .i64 mud)]) (kr := [(0, .list 0 [.int .i64, .int .i64, .int .i64, .int .i64, .int .i64, .int .i64, .int .i64, .int .i64, .int .i64] false l), (1, .row 24 [.ls false 0 (Ll.len l)])]) (ty := []) (x := (i_0, s_0))
      (Inv := (fun x : Int × Int => match x with | (i, s) => 0 ≤ i ∧ i ≤ Ll.len l ∧ s = sumI (tubeWt l mud) i.toNat)) (μ := (fun x : Int × Int => match x with | (i, s) => (24 - i).toNat)) (ts := tsOf [6, 5] []) (sl := (fun x : Int × Int => match x with | (i, s) => [.i .i64 i, .i .i64 s])) (bl := (fun x : Int × Int => match x with | (i, s) => [])) (ll := (fun x : Int × Int => match x with | (i, s) => [])) (Q := fun e_ vs_ os_ hs_ => K_ e_ (hdL (bodyAt Try.prog 12 [false, true, false, true, true, true]) T_ (kills [] M_) 46 2 [(2, .p 1 0), (1, .i .i64 mud)] [(0, .list 0 [.int .i64, .int .i64, .int .i64, .int .i64, .int .i64, .int .i64, .int .i64, .int .i64, .int .i64] false l), (1, .row 24 [.ls false 0 (Ll.len l)])] (((tsOf [6, 5] []) e_).zip vs_) ([].zip os_) [] hs_ (addW ([] ++ []) wr_)))
      (L := LL) (U := 30) (cs := sCall Try.prog 30 (spOf spW) noLoop 20) (call := CN Try.prog AW m_) (lp := noLoop 12) (root := c0_) (p := [false, true, false, true, true, true])
      (show CallSOK _ _ from by
        have := sCall_ok (P := Try.prog) (d := m_ - 20) (U := 30) (lp := noLoop) (spW_ok (ov := true) (d := m_ - 20) (by omega)) (spW_aw (fs := fsu) (ov := true)) (noLoop_ok) (by decide) 20
        rwa [show 20 + (m_ - 20) = m_ by omega] at this) (fun p f h => by cases h) (by decide) hc_
      (fun x o ho => by cases ho)
      (fun x hx => by cases hx) (fun x hx => by cases hx) (fun x hx => by cases hx)
      (fun x hx => by
        simp only [List.mem_cons, List.not_mem_nil, or_false] at hx
        rcases hx with rfl | rfl
        · exact g0
        · exact g1) (fun x hx => by
        simp only [List.mem_cons, List.not_mem_nil, or_false] at hx
        rcases hx with rfl | rfl
        · exact ⟨g2, by simp⟩
        · exact ⟨g3, by simp⟩) ?_ (fun _ _ _ _ _ h => h) ?_ ?_ ?_ hs_
    · rintro ⟨i, s⟩ hI
      exact rwt_go mud l i s i_0 s_0 q1 q2 T_ (kills [] M_) _ q3 q4 q5 hI (fun i' s' ha hb => ⟨(i', s'), ha, hb, rfl, rfl, rfl⟩) (⟨by simp [SO.mine], hx1⟩)
    · show 0 ≤ i_0 ∧ i_0 ≤ Ll.len l ∧ s_0 = sumI (tubeWt l mud) i_0.toNat
      exact ⟨by omega, by have : (0 : Int) ≤ Ll.len l := Int.natCast_nonneg _; omega, by rw [q1, q2]; rfl⟩
    · show (24 - i_0).toNat < LL
      exact Nat.lt_of_le_of_lt (show _ ≤ 1000 by omega) (by decide)
    · exact ⟨⟨[.i .i64 i_0, .i .i64 s_0], [], [], [], by simp [gets, tsOf, g0, g1, g2, g3, g4, g5], by simp [gets, g0, g1, g2, g3, g4, g5], rfl, rfl, by simp [listsOf] <;> rfl⟩⟩
  · exact h_.elim
abbrev lpRwt {A : Go.Rx.Alg} : Nat → Go.Rx.LoopS A := Go.Rx.lpOf [(12, [false, true, false, true, true, true], rwtF)]
theorem lpRwt_ok {d : Nat} (hd : 500 ≤ d) : LoopsAll (fs := fsu) (ov := true) Try.prog AW d lpRwt := lpOf_ok fun x hx => by
  simp only [List.mem_cons, List.not_mem_nil, or_false] at hx
  rcases hx with rfl
  · exact rwtF_ok (by omega)
theorem weight_eq (mud : Int) (l : Ll) (KK : KS (stdA fsu true)) : sFunc Try.prog 30 (sCall Try.prog 30 (spOf spW) lpWt 20) lpWt 11 [.agg [.ls false 0 (Ll.len l)], .i .i64 mud] (lsMem 0 [([.int .i64, .int .i64, .int .i64, .int .i64, .int .i64, .int .i64, .int .i64, .int .i64, .int .i64], l)]) 1 KK =
  ((Ll.len l) = (Ll.len l) ∧ (cond (decide ((chkI l) ≠ (0 : Int)))
 (KK (.i .i64 (0 : Int)) (lsMem 0 [([.int .i64, .int .i64, .int .i64, .int .i64, .int .i64, .int .i64, .int .i64, .int .i64, .int .i64], l)]) 1 [])
 (cond (decide ((0 : Int) ≤ mud))
 (cond (!(decide (mud ≤ (40000 : Int))))
 (KK (.i .i64 (0 : Int)) (lsMem 0 [([.int .i64, .int .i64, .int .i64, .int .i64, .int .i64, .int .i64, .int .i64, .int .i64, .int .i64], l)]) 1 [])
 ((Ll.len l) = (Ll.len l) ∧ ((Ll.len l) = (Ll.len l) ∧ ((0 : Int) = (0 : Int) ∧ ((0 : Int) = (0 : Int) ∧ (cond (OkB l)
 ((0 : Int) ≤ mud ∧ (mud ≤ (40000 : Int) ∧ (KK (.i .i64 (sumI (tubeWt l mud) l.length)) (lsMem 0 [([.int .i64, .int .i64, .int .i64, .int .i64, .int .i64, .int .i64, .int .i64, .int .i64, .int .i64], l)]) 1 [])))
 False))))))
 (KK (.i .i64 (0 : Int)) (lsMem 0 [([.int .i64, .int .i64, .int .i64, .int .i64, .int .i64, .int .i64, .int .i64, .int .i64, .int .i64], l)]) 1 [])))) := by kernel_rfl
theorem weight_pure {m : Nat} (hm : 600 ≤ m) {H : Hp} {nx : Nat} (mud : Int) {v_l : LV} {l : Ll} (hl_l : IsL H nx [.int .i64, .int .i64, .int .i64, .int .i64, .int .i64, .int .i64, .int .i64, .int .i64, .int .i64] l v_l) : Pure Try.prog AW m 11 [.agg [v_l], .i .i64 mud] H nx (.i .i64 (weightI l mud)) := by
  obtain ⟨ν, n1, n2, n3, n4⟩ := ls_in (fs := fsu) (ov := true) (l := [([.int .i64, .int .i64, .int .i64, .int .i64, .int .i64, .int .i64, .int .i64, .int .i64, .int .i64], l)]) (lvs := [v_l]) 0 (fun i x lv e1 e2 => by
    cases i with
    | zero => simp at e1 e2; subst e1 e2; exact hl_l
    | succ i =>
      simp at e1) rfl
  refine pure_of (n := 20) (d := m - 21) (U := 30) (fs := fsu) (ov := true) (spW_ok (by omega)) spW_aw (lpWt_ok (by omega)) (by decide) (by decide) (by omega) (args := [.agg [.ls false 0 (Ll.len l)], .i .i64 mud]) (M := lsMem 0 [([.int .i64, .int .i64, .int .i64, .int .i64, .int .i64, .int .i64, .int .i64, .int .i64, .int .i64], l)]) (snx := 1) ?_ (VSL.cons ⟨_, rfl, (VSL.cons (n4 0 _ _ rfl rfl) rfl)⟩ (VSL.cons rfl rfl)) (hs_in n2 n3)
  rw [weight_eq]
  have c0 : weightI l mud = if chkI l = 0 ∧ 0 ≤ mud ∧ mud ≤ 40000 then sumI (tubeWt l mud) l.length else 0 := rfl
  have hz : ¬ (chkI l = 0 ∧ 0 ≤ mud ∧ mud ≤ 40000) → (0 : Int) = weightI l mud := fun h => by rw [c0, if_neg h]
  have hp : (chkI l = 0 ∧ 0 ≤ mud ∧ mud ≤ 40000) → sumI (tubeWt l mud) l.length = weightI l mud ∧ OkB l = true := fun h => ⟨by rw [c0, if_pos h], (chk_ok h.1).1⟩
  generalize weightI l mud = W at *
  simp only [cond_iff, cond_not, ge_iff_le]
  repeat' (first | apply And.intro | intro _)
  all_goals first
    | trivial
    | exact end_i (hz (by omega))
    | (rw [(hp (by omega)).2]; exact ⟨by omega, by omega, end_i (hp (by omega)).1⟩)
    | omega
abbrev weightS {A : Go.Rx.Alg} : List (Go.Rx.SV A) → Go.Rx.SH A → Nat → Go.Rx.KS A → A.R := fun args_ M_ snx_ K_ => match args_ with
  | [.agg [x_l], .i .i64 mud] => (match Go.Rx.lsArg M_ [.int .i64, .int .i64, .int .i64, .int .i64, .int .i64, .int .i64, .int .i64, .int .i64, .int .i64] x_l with | some (l, n_l) => (A.need .eql n_l (A.len l) (K_ (.i .i64 (A.app 6 [l] [mud])) M_ snx_ [])) | none => A.fail "weight")
  | _ => A.fail "weight"
theorem weightS_ok {ov : Bool} {d : Nat} (hd : 600 ≤ d) : SpecOK (fs := fsu) (ov := ov) Try.prog AW d 11 weightS := by
  intro m_ hm_ args_ M_ snx_ K_ h_ ν_ largs_ H_ nx_ ha_ hM_
  unfold weightS at h_
  split at h_
  · rename_i x_l mud
    obtain ⟨y1, r1, rfl, ⟨l1, rfl, ⟨v_l, r2, rfl, hx_l, rfl⟩⟩, ⟨y3, r3, rfl, rfl, rfl⟩⟩ := ha_
    split at h_
    · rename_i l n_l q_l
      obtain ⟨e_l, h_⟩ := h_
      exact pure_got (weight_pure (by omega) mud (lsArg_ok hM_ hx_l q_l e_l)) hM_ (v := .i .i64 _) rfl h_
    · exact h_.elim
  · exact h_.elim
theorem rweight_eq (mud : Int) (l : Ll) (KK : KS (stdA fsu true)) : sFunc Try.prog 30 (sCall Try.prog 30 (spOf spW) lpRwt 20) lpRwt 12 [.agg [.ls false 0 (Ll.len l)], .i .i64 mud] (lsMem 0 [([.int .i64, .int .i64, .int .i64, .int .i64, .int .i64, .int .i64, .int .i64, .int .i64, .int .i64], l)]) 1 KK =
  ((Ll.len l) = (Ll.len l) ∧ (cond (decide ((chkI l) ≠ (0 : Int)))
 (KK (.i .i64 (0 : Int)) (lsMem 0 [([.int .i64, .int .i64, .int .i64, .int .i64, .int .i64, .int .i64, .int .i64, .int .i64, .int .i64], l)]) 1 [])
 (cond (decide (mud ≥ (0 : Int)))
 (cond (!(decide (mud ≤ (40000 : Int))))
 (KK (.i .i64 (0 : Int)) (lsMem 0 [([.int .i64, .int .i64, .int .i64, .int .i64, .int .i64, .int .i64, .int .i64, .int .i64, .int .i64], l)]) 1 [])
 ((Ll.len l) = (Ll.len l) ∧ ((0 : Int) = (0 : Int) ∧ ((0 : Int) = (0 : Int) ∧ (cond (OkB l)
 ((0 : Int) ≤ mud ∧ (mud ≤ (40000 : Int) ∧ (KK (.i .i64 (sumI (tubeWt l mud) l.length)) (lsMem 0 [([.int .i64, .int .i64, .int .i64, .int .i64, .int .i64, .int .i64, .int .i64, .int .i64, .int .i64], l)]) 1 [])))
 False)))))
 (KK (.i .i64 (0 : Int)) (lsMem 0 [([.int .i64, .int .i64, .int .i64, .int .i64, .int .i64, .int .i64, .int .i64, .int .i64, .int .i64], l)]) 1 [])))) := by kernel_rfl
theorem rweight_pure {m : Nat} (hm : 600 ≤ m) {H : Hp} {nx : Nat} (mud : Int) {v_l : LV} {l : Ll} (hl_l : IsL H nx [.int .i64, .int .i64, .int .i64, .int .i64, .int .i64, .int .i64, .int .i64, .int .i64, .int .i64] l v_l) : Pure Try.prog AW m 12 [.agg [v_l], .i .i64 mud] H nx (.i .i64 (weightI l mud)) := by
  obtain ⟨ν, n1, n2, n3, n4⟩ := ls_in (fs := fsu) (ov := true) (l := [([.int .i64, .int .i64, .int .i64, .int .i64, .int .i64, .int .i64, .int .i64, .int .i64, .int .i64], l)]) (lvs := [v_l]) 0 (fun i x lv e1 e2 => by
    cases i with
    | zero => simp at e1 e2; subst e1 e2; exact hl_l
    | succ i =>
      simp at e1) rfl
  refine pure_of (n := 20) (d := m - 21) (U := 30) (fs := fsu) (ov := true) (spW_ok (by omega)) spW_aw (lpRwt_ok (by omega)) (by decide) (by decide) (by omega) (args := [.agg [.ls false 0 (Ll.len l)], .i .i64 mud]) (M := lsMem 0 [([.int .i64, .int .i64, .int .i64, .int .i64, .int .i64, .int .i64, .int .i64, .int .i64, .int .i64], l)]) (snx := 1) ?_ (VSL.cons ⟨_, rfl, (VSL.cons (n4 0 _ _ rfl rfl) rfl)⟩ (VSL.cons rfl rfl)) (hs_in n2 n3)
  rw [rweight_eq]
  have c0 : weightI l mud = if chkI l = 0 ∧ 0 ≤ mud ∧ mud ≤ 40000 then sumI (tubeWt l mud) l.length else 0 := rfl
  have hz : ¬ (chkI l = 0 ∧ 0 ≤ mud ∧ mud ≤ 40000) → (0 : Int) = weightI l mud := fun h => by rw [c0, if_neg h]
  have hp : (chkI l = 0 ∧ 0 ≤ mud ∧ mud ≤ 40000) → sumI (tubeWt l mud) l.length = weightI l mud ∧ OkB l = true := fun h => ⟨by rw [c0, if_pos h], (chk_ok h.1).1⟩
  generalize weightI l mud = W at *
  simp only [cond_iff, cond_not, ge_iff_le]
  repeat' (first | apply And.intro | intro _)
  all_goals first
    | trivial
    | exact end_i (hz (by omega))
    | (rw [(hp (by omega)).2]; exact ⟨by omega, by omega, end_i (hp (by omega)).1⟩)
    | omega
abbrev rweightS {A : Go.Rx.Alg} : List (Go.Rx.SV A) → Go.Rx.SH A → Nat → Go.Rx.KS A → A.R := fun args_ M_ snx_ K_ => match args_ with
  | [.agg [x_l], .i .i64 mud] => (match Go.Rx.lsArg M_ [.int .i64, .int .i64, .int .i64, .int .i64, .int .i64, .int .i64, .int .i64, .int .i64, .int .i64] x_l with | some (l, n_l) => (A.need .eql n_l (A.len l) (K_ (.i .i64 (A.app 6 [l] [mud])) M_ snx_ [])) | none => A.fail "rweight")
  | _ => A.fail "rweight"
theorem rweightS_ok {ov : Bool} {d : Nat} (hd : 600 ≤ d) : SpecOK (fs := fsu) (ov := ov) Try.prog AW d 12 rweightS := by
  intro m_ hm_ args_ M_ snx_ K_ h_ ν_ largs_ H_ nx_ ha_ hM_
  unfold rweightS at h_
  split at h_
  · rename_i x_l mud
    obtain ⟨y1, r1, rfl, ⟨l1, rfl, ⟨v_l, r2, rfl, hx_l, rfl⟩⟩, ⟨y3, r3, rfl, rfl, rfl⟩⟩ := ha_
    split at h_
    · rename_i l n_l q_l
      obtain ⟨e_l, h_⟩ := h_
      exact pure_got (rweight_pure (by omega) mud (lsArg_ok hM_ hx_l q_l e_l)) hM_ (v := .i .i64 _) rfl h_
    · exact h_.elim
  · exact h_.elim
theorem ja_eq (tz ta tb tc td te tf tg th tk n far : Int) (g : Ll) (T : Al (SV (stdA fsu true))) (M : Al (SO (stdA fsu true))) (KK : Ex → List (SV (stdA fsu true)) → List (SO (stdA fsu true)) → List Ll → Prop) : sCode Try.prog (sCall Try.prog 30 (spOf sp0) noLoop 20) (noLoop 16) 30 (false :: [false, true, true, false, false, true, true, false, false, true, false, true, true, true, true]) (bodyAt Try.prog 16 [false, true, true, false, false, true, true, false, false, true, false, true, true, true, true]) (hdL (bodyAt Try.prog 16 [false, true, true, false, false, true, true, false, false, true, false, true, true, true, true]) T M 34 4 [(20, .i .i64 ta), (6, .p 3 0)] [(3, .row 26 [.i .i64 tz, .i .i64 tb, .i .i64 tc, .i .i64 td, .i .i64 te, .i .i64 tf, .i .i64 tg, .i .i64 th, .i .i64 tk])] [(21, .i .i64 n), (3, .i .i64 far), (4, .ls true 4 (Ll.len g))] [] [(2, [.int .i64])] [g] []) (outL 4 (tsOf [21, 3, 4] []) [] [2] [(2, [.int .i64])] KK) =
  (cond (decide (n < ta))
 (InK .i64 (far + tb) ∧ ((Ll.len g) = (Ll.len g) ∧ ((Ll.len (g ++ [[(far + tb)]])) ≤ (1000000 : Int) ∧ (InK .i64 (n + (1 : Int)) ∧ (KK .normal [(.i .i64 (n + (1 : Int))), (.i .i64 (far + tb)), (.ls true 4 (Ll.len (g ++ [[(far + tb)]])))] [] [(g ++ [[(far + tb)]])])))))
 (KK (.exit 2) [(.i .i64 n), (.i .i64 far), (.ls true 4 (Ll.len g))] [] [g])) := by kernel_rfl
theorem ja_go (tz : Int) (ta : Int) (tb : Int) (tc : Int) (td : Int) (te : Int) (tf : Int) (tg : Int) (th : Int) (tk : Int) (n : Int) (far : Int) (g : Ll) (n_0 : Int) (far_0 : Int) (r1 : n_0 = (0 : Int)) (r2 : (0 : Int) ≤ far_0) (r3 : far_0 ≤ (20000000 : Int)) (T : Al (SV (stdA fsu true))) (M : Al (SO (stdA fsu true))) (KK : Ex → List (SV (stdA fsu true)) → List (SO (stdA fsu true)) → List Ll → Prop) (p1 : (1 : Int) ≤ ta) (p2 : ta ≤ (400 : Int)) (p3 : (100 : Int) ≤ tb) (p4 : tb ≤ (4000 : Int)) (hI : 0 ≤ n ∧ n ≤ ta ∧ far = far_0 + tb * n ∧ g = [[0]] ++ jBlock far_0 tb n.toNat) (hn : ∀ (n' : Int) (far' : Int) (g' : Ll), 0 ≤ n' ∧ n' ≤ ta ∧ far' = far_0 + tb * n' ∧ g' = [[0]] ++ jBlock far_0 tb n'.toNat → (ta - n').toNat < (ta - n).toNat → KK .normal [.i .i64 n', .i .i64 far', .ls true 4 (Ll.len g')] [] [g']) (hx1 : KK (.exit 2) [.i .i64 ta, .i .i64 (far_0 + tb * ta), .ls true 4 (Ll.len ([[0]] ++ jBlock far_0 tb ta.toNat))] [] [([[0]] ++ jBlock far_0 tb ta.toNat)]) :
    sCode Try.prog (sCall Try.prog 30 (spOf sp0) noLoop 20) (noLoop 16) 30 (false :: [false, true, true, false, false, true, true, false, false, true, false, true, true, true, true]) (bodyAt Try.prog 16 [false, true, true, false, false, true, true, false, false, true, false, true, true, true, true]) (hdL (bodyAt Try.prog 16 [false, true, true, false, false, true, true, false, false, true, false, true, true, true, true]) T M 34 4 [(20, .i .i64 ta), (6, .p 3 0)] [(3, .row 26 [.i .i64 tz, .i .i64 tb, .i .i64 tc, .i .i64 td, .i .i64 te, .i .i64 tf, .i .i64 tg, .i .i64 th, .i .i64 tk])] [(21, .i .i64 n), (3, .i .i64 far), (4, .ls true 4 (Ll.len g))] [] [(2, [.int .i64])] [g] []) (outL 4 (tsOf [21, 3, 4] []) [] [2] [(2, [.int .i64])] KK) := by
  refine Eq.mpr (ja_eq tz ta tb tc td te tf tg th tk n far g T M KK) ?_
  obtain ⟨i0, i1, rfl, rfl⟩ := hI
  by_cases h : n < ta
  · rw [decide_eq_true h]
    have hm := mul_bd (show 0 ≤ tb by omega) (show tb ≤ 4000 by omega) i0 (show n ≤ 400 by omega)
    have e1 : far_0 + tb * n + tb = far_0 + tb * (n + 1) := by grind
    have e2 : [[0]] ++ jBlock far_0 tb (n + 1).toNat = [[0]] ++ jBlock far_0 tb n.toNat ++ [[far_0 + tb * (n + 1)]] := by
      rw [show (n + 1).toNat = n.toNat + 1 by omega, jBlock_succ, Int.toNat_of_nonneg i0, List.append_assoc, Int.mul_comm tb]
    have e3 : Ll.len ([[0]] ++ jBlock far_0 tb n.toNat ++ [[far_0 + tb * (n + 1)]]) ≤ 1000000 := by
      show ((List.length _ : Nat) : Int) ≤ 1000000
      simp only [List.length_append, jBlock_len, List.length_cons, List.length_nil]
      omega
    have hn' := hn (n + 1) _ _ ⟨by omega, by omega, rfl, rfl⟩ (by omega)
    rw [e2] at hn'
    rw [e1]
    simp only [InK64]
    exact ⟨by omega, by trivial, e3, by omega, hn'⟩
  · rw [decide_eq_false h]
    obtain rfl : n = ta := by omega
    first | exact hx1 | exact ⟨by omega, by omega, by omega, hx1⟩
theorem ja0_eq (tz ta tb tc td te tf tg th tk n far : Int) (T : Al (SV (stdA fsu true))) (M : Al (SO (stdA fsu true))) (KK : Ex → List (SV (stdA fsu true)) → List (SO (stdA fsu true)) → List Ll → Prop) : sCode Try.prog (sCall Try.prog 30 (spOf sp0) noLoop 20) (noLoop 16) 30 (false :: [false, true, true, false, false, true, true, false, false, true, false, true, true, true, true]) (bodyAt Try.prog 16 [false, true, true, false, false, true, true, false, false, true, false, true, true, true, true]) ⟨push [(20, .i .i64 ta), (6, .p 3 0), (21, .i .i64 n), (3, .i .i64 far), (4, .sl 2 0 1 1)] T, 34, push [(3, .row 26 [.i .i64 tz, .i .i64 tb, .i .i64 tc, .i .i64 td, .i .i64 te, .i .i64 tf, .i .i64 tg, .i .i64 th, .i .i64 tk]), (2, .row 2 [.i .i64 (0 : Int)])] M, 4, []⟩ (outL 4 (tsOf [21, 3, 4] []) [] [2] [(2, [.int .i64])] KK) =
  (cond (decide (n < ta))
 (InK .i64 (far + tb) ∧ ((Ll.len ([[(0 : Int)]] ++ [[(far + tb)]])) ≤ (1000000 : Int) ∧ (InK .i64 (n + (1 : Int)) ∧ (KK .normal [(.i .i64 (n + (1 : Int))), (.i .i64 (far + tb)), (.ls true 4 (Ll.len ([[(0 : Int)]] ++ [[(far + tb)]])))] [] [([[(0 : Int)]] ++ [[(far + tb)]])]))))
 False) := by kernel_rfl
theorem ja_go0 (tz : Int) (ta : Int) (tb : Int) (tc : Int) (td : Int) (te : Int) (tf : Int) (tg : Int) (th : Int) (tk : Int) (n_0 : Int) (far_0 : Int) (T : Al (SV (stdA fsu true))) (M : Al (SO (stdA fsu true))) (KK : Ex → List (SV (stdA fsu true)) → List (SO (stdA fsu true)) → List Ll → Prop) (p1 : n_0 = (0 : Int)) (p2 : (1 : Int) ≤ ta) (p3 : ta ≤ (400 : Int)) (p4 : (100 : Int) ≤ tb) (p5 : tb ≤ (4000 : Int)) (p6 : (0 : Int) ≤ far_0) (p7 : far_0 ≤ (20000000 : Int)) (hn : ∀ (n' : Int) (far' : Int) (g' : Ll), 0 ≤ n' ∧ n' ≤ ta ∧ far' = far_0 + tb * n' ∧ g' = [[0]] ++ jBlock far_0 tb n'.toNat → (ta - n').toNat < 1000 → KK .normal [.i .i64 n', .i .i64 far', .ls true 4 (Ll.len g')] [] [g']) (hx1 : KK (.exit 2) [.i .i64 ta, .i .i64 (far_0 + tb * ta), .ls true 4 (Ll.len ([[0]] ++ jBlock far_0 tb ta.toNat))] [] [([[0]] ++ jBlock far_0 tb ta.toNat)]) :
    sCode Try.prog (sCall Try.prog 30 (spOf sp0) noLoop 20) (noLoop 16) 30 (false :: [false, true, true, false, false, true, true, false, false, true, false, true, true, true, true]) (bodyAt Try.prog 16 [false, true, true, false, false, true, true, false, false, true, false, true, true, true, true]) ⟨push [(20, .i .i64 ta), (6, .p 3 0), (21, .i .i64 n_0), (3, .i .i64 far_0), (4, .sl 2 0 1 1)] T, 34, push [(3, .row 26 [.i .i64 tz, .i .i64 tb, .i .i64 tc, .i .i64 td, .i .i64 te, .i .i64 tf, .i .i64 tg, .i .i64 th, .i .i64 tk]), (2, .row 2 [.i .i64 (0 : Int)])] M, 4, []⟩ (outL 4 (tsOf [21, 3, 4] []) [] [2] [(2, [.int .i64])] KK) := by
  refine Eq.mpr (ja0_eq tz ta tb tc td te tf tg th tk n_0 far_0 T M KK) ?_
  have h1 : n_0 < ta := by omega
  rw [decide_eq_true h1]
  have hn' := hn 1 (far_0 + tb) ([[0]] ++ [[far_0 + tb]]) ⟨by omega, by omega, by grind, by
    rw [show (1 : Int).toNat = 0 + 1 from rfl, jBlock_succ]; simp [jBlock]⟩ (by omega)
  rw [p1]
  exact ⟨by rw [InK64]; omega, by show ((2 : Nat) : Int) ≤ 1000000; omega, by rw [InK64]; omega, hn'⟩
abbrev jaF {A : Go.Rx.Alg} : Code → Go.Rx.SS A → (Go.Rx.Ex → Go.Rx.SS A → A.R) → A.R := fun c_ s_ K_ => match s_.T.get 20, s_.T.get 6, s_.H.get 3, s_.T.get 21, s_.T.get 3, s_.T.get 4, s_.H.get 2 with
  | some (.i .i64 ta), some (.p 3 0), some (.row t1 [.i .i64 tz, .i .i64 tb, .i .i64 tc, .i .i64 td, .i .i64 te, .i .i64 tf, .i .i64 tg, .i .i64 th, .i .i64 tk]), some (.i .i64 n), some (.i .i64 far), some (.sl 2 0 1 1), some (.row t2 [.i .i64 m3]) => bif (((Nat.beq s_.N 34 && Nat.beq s_.nx 4) && Nat.beq t1 26) && Nat.beq t2 2) then (A.need .eql m3 (A.lit 0) (A.need .eql n (A.lit 0) (A.need .leq (A.lit 1) ta (A.need .leq ta (A.lit 400) (A.need .leq (A.lit 100) tb (A.need .leq tb (A.lit 4000) (A.need .leq (A.lit 0) far (A.need .leq far (A.lit 20000000) (K_ (.exit 2) (Go.Rx.hdL c_ s_.T (Go.Rx.kills [2] s_.H) 34 4 [(20, .i .i64 ta), (6, .p 3 0)] [(3, .row 26 [.i .i64 tz, .i .i64 tb, .i .i64 tc, .i .i64 td, .i .i64 te, .i .i64 tf, .i .i64 tg, .i .i64 th, .i .i64 tk])] [(21, .i .i64 ta), (3, .i .i64 (A.app 7 [] [far, tb, ta])), (4, .ls true 4 (A.len (A.appL 51 [] [far, tb, ta])))] [] [(2, [.int .i64])] [(A.appL 51 [] [far, tb, ta])] (Go.Rx.addW ([2] ++ []) s_.wr))))))))))) else A.fail "frame of ja"
  | _, _, _, _, _, _, _ => A.fail "ja"
theorem jaF_ok {d : Nat} (hd : 100 ≤ d) : LoopOK (fs := fsu) (ov := true) Try.prog AW d 16 [false, true, true, false, false, true, true, false, false, true, false, true, true, true, true] jaF := by
  intro m_ hm_ fn_ c0_ hfn_ hb_ c_ ro_ hc_ s_ K_ W_ ν_ S_ h_ hs_
  obtain rfl := body_of hfn_ hb_ hc_
  simp only [jaF] at h_
  split at h_
  · rename_i ta_0 t1 tz_0 tb_0 tc_0 td_0 te_0 tf_0 tg_0 th_0 tk_0 n_0_0 far_0_0 t2 m3_0 g0 g1 g2 g3 g4 g5 g6
    obtain ⟨ta, rfl⟩ : ∃ q : Int, q = ta_0 := ⟨ta_0, rfl⟩
    obtain ⟨tz, rfl⟩ : ∃ q : Int, q = tz_0 := ⟨tz_0, rfl⟩
    obtain ⟨tb, rfl⟩ : ∃ q : Int, q = tb_0 := ⟨tb_0, rfl⟩
    obtain ⟨tc, rfl⟩ : ∃ q : Int, q = tc_0 := ⟨tc_0, rfl⟩
    obtain ⟨td, rfl⟩ : ∃ q : Int, q = td_0 := ⟨td_0, rfl⟩
    obtain ⟨te, rfl⟩ : ∃ q : Int, q = te_0 := ⟨te_0, rfl⟩
    obtain ⟨tf, rfl⟩ : ∃ q : Int, q = tf_0 := ⟨tf_0, rfl⟩
    obtain ⟨tg, rfl⟩ : ∃ q : Int, q = tg_0 := ⟨tg_0, rfl⟩
    obtain ⟨th, rfl⟩ : ∃ q : Int, q = th_0 := ⟨th_0, rfl⟩
    obtain ⟨tk, rfl⟩ : ∃ q : Int, q = tk_0 := ⟨tk_0, rfl⟩
    obtain ⟨n_0, rfl⟩ : ∃ q : Int, q = n_0_0 := ⟨n_0_0, rfl⟩
    obtain ⟨far_0, rfl⟩ : ∃ q : Int, q = far_0_0 := ⟨far_0_0, rfl⟩
    obtain ⟨m3, rfl⟩ : ∃ q : Int, q = m3_0 := ⟨m3_0, rfl⟩
    obtain ⟨T_, FN_, M_, snx_, wr_⟩ := s_
    have hN : (((Nat.beq FN_ 34 && Nat.beq snx_ 4) && Nat.beq t1 26) && Nat.beq t2 2) = true := by
      cases hq : ((((Nat.beq FN_ 34 && Nat.beq snx_ 4) && Nat.beq t1 26) && Nat.beq t2 2) : Bool) with
      | true => rfl
      | false => (rw [hq] at h_; exact h_.elim)
    rw [hN, cond_true] at h_
    simp only [Bool.and_eq_true, beq_iff, decide_eq_true_eq] at hN
    obtain ⟨⟨⟨rfl, rfl⟩, rfl⟩, rfl⟩ := hN
    obtain ⟨q0, h_⟩ := h_
    obtain rfl : m3 = (0 : Int) := q0
    obtain ⟨q1, h_⟩ := h_
    have q1 : n_0 = (0 : Int) := q1
    obtain ⟨q2, h_⟩ := h_
    have q2 : (1 : Int) ≤ ta := q2
    obtain ⟨q3, h_⟩ := h_
    have q3 : ta ≤ (400 : Int) := q3
    obtain ⟨q4, h_⟩ := h_
    have q4 : (100 : Int) ≤ tb := q4
    obtain ⟨q5, h_⟩ := h_
    have q5 : tb ≤ (4000 : Int) := q5
    obtain ⟨q6, h_⟩ := h_
    have q6 : (0 : Int) ≤ far_0 := q6
    obtain ⟨q7, h_⟩ := h_
    have q7 : far_0 ≤ (20000000 : Int) := q7
    replace h_ : K_ (.exit 2) (hdL (bodyAt Try.prog 16 [false, true, true, false, false, true, true, false, false, true, false, true, true, true, true]) T_ (kills [2] M_) 34 4 [(20, .i .i64 ta), (6, .p 3 0)] [(3, .row 26 [.i .i64 tz, .i .i64 tb, .i .i64 tc, .i .i64 td, .i .i64 te, .i .i64 tf, .i .i64 tg, .i .i64 th, .i .i64 tk])] [(21, .i .i64 ta), (3, .i .i64 (far_0 + tb * ta)), (4, .ls true 4 (Ll.len ([[0]] ++ jBlock far_0 tb ta.toNat)))] [] [(2, [.int .i64])] [([[0]] ++ jBlock far_0 tb ta.toNat)] (addW ([2] ++ []) wr_)) := h_
    have hx1 : K_ (.exit 2) (hdL (bodyAt Try.prog 16 [false, true, true, false, false, true, true, false, false, true, false, true, true, true, true]) T_ (kills [2] M_) 34 4 [(20, .i .i64 ta), (6, .p 3 0)] [(3, .row 26 [.i .i64 tz, .i .i64 tb, .i .i64 tc, .i .i64 td, .i .i64 te, .i .i64 tf, .i .i64 tg, .i .i64 th, .i .i64 tk])] [(21, .i .i64 ta), (3, .i .i64 (far_0 + tb * ta)), (4, .ls true 4 (Ll.len ([[0]] ++ jBlock far_0 tb ta.toNat)))] [] [(2, [.int .i64])] [([[0]] ++ jBlock far_0 tb ta.toNat)] (addW ([2] ++ []) wr_)) := by
      have h2 := h_
      exact h2
    refine loop_ruleF (fs := fsu) (ov := true) (s := ⟨T_, 34, M_, 4, wr_⟩) (X := Int × Int × Ll) (B := []) (mv := [2]) (kt := [(20, .i .i64 ta), (6, .p 3 0)]) (kr := [(3, .row 26 [.i .i64 tz, .i .i64 tb, .i .i64 tc, .i .i64 td, .i .i64 te, .i .i64 tf, .i .i64 tg, .i .i64 th, .i .i64 tk])]) (kt0 := [(20, .i .i64 ta), (6, .p 3 0), (21, .i .i64 n_0), (3, .i .i64 far_0), (4, .sl 2 0 1 1)]) (kr0 := [(3, .row 26 [.i .i64 tz, .i .i64 tb, .i .i64 tc, .i .i64 td, .i .i64 te, .i .i64 tf, .i .i64 tg, .i .i64 th, .i .i64 tk]), (2, .row 2 [.i .i64 (0 : Int)])]) (ty := [(2, [.int .i64])]) (m := 1000)
      (Inv := (fun x : Int × Int × Ll => match x with | (n, far, g) => 0 ≤ n ∧ n ≤ ta ∧ far = far_0 + tb * n ∧ g = [[0]] ++ jBlock far_0 tb n.toNat)) (μ := (fun x : Int × Int × Ll => match x with | (n, far, g) => (ta - n).toNat)) (ts := tsOf [21, 3, 4] []) (sl := (fun x : Int × Int × Ll => match x with | (n, far, g) => [.i .i64 n, .i .i64 far, .ls true 4 (Ll.len g)])) (bl := (fun x : Int × Int × Ll => match x with | (n, far, g) => [])) (ll := (fun x : Int × Int × Ll => match x with | (n, far, g) => [g])) (Q := fun e_ vs_ os_ hs_ => K_ e_ (hdL (bodyAt Try.prog 16 [false, true, true, false, false, true, true, false, false, true, false, true, true, true, true]) T_ (kills [2] M_) 34 4 [(20, .i .i64 ta), (6, .p 3 0)] [(3, .row 26 [.i .i64 tz, .i .i64 tb, .i .i64 tc, .i .i64 td, .i .i64 te, .i .i64 tf, .i .i64 tg, .i .i64 th, .i .i64 tk])] (((tsOf [21, 3, 4] []) e_).zip vs_) ([].zip os_) [(2, [.int .i64])] hs_ (addW ([2] ++ []) wr_)))
      (L := LL) (U := 30) (cs := sCall Try.prog 30 (spOf sp0) noLoop 20) (call := CN Try.prog AW m_) (lp := noLoop 16) (root := c0_) (p := [false, true, true, false, false, true, true, false, false, true, false, true, true, true, true])
      (show CallSOK _ _ from by
        have := sCall_ok (P := Try.prog) (d := m_ - 20) (U := 30) (lp := noLoop) (sp0_ok (fs := fsu) (ov := true) (d := m_ - 20)) (sp0_aw (fs := fsu) (ov := true)) (noLoop_ok) (by decide) 20
        rwa [show 20 + (m_ - 20) = m_ by omega] at this) (fun p f h => by cases h) (by decide) hc_
      (fun x o ho => by cases ho)
      (fun x hx => by cases hx) (fun x hx => by
        simp only [List.mem_cons, List.not_mem_nil, or_false] at hx
        rcases hx with rfl
        · exact ⟨_, g6, rfl⟩) (fun x hx => by cases hx)
      (fun x hx => by
        simp only [List.mem_cons, List.not_mem_nil, or_false] at hx
        rcases hx with rfl | rfl
        · exact g0
        · exact g1) (fun x hx => by
        simp only [List.mem_cons, List.not_mem_nil, or_false] at hx
        rcases hx with rfl
        · exact ⟨g2, by simp⟩) ?_ (fun _ _ _ _ _ h => h) (by decide) (fun x hx => by
        simp only [List.mem_cons, List.not_mem_nil, or_false] at hx
        rcases hx with rfl | rfl | rfl | rfl | rfl
        · exact g0
        · exact g1
        · exact g3
        · exact g4
        · exact g5) (fun x hx => by
        simp only [List.mem_cons, List.not_mem_nil, or_false] at hx
        rcases hx with rfl | rfl
        · exact g2
        · exact g6) ?_ hs_
    · rintro ⟨n, far, g⟩ hI
      exact ja_go tz ta tb tc td te tf tg th tk n far g n_0 far_0 q1 q6 q7 T_ (kills [2] M_) _ q2 q3 q4 q5 hI (fun n' far' g' ha hb => ⟨(n', far', g'), ha, hb, rfl, rfl, rfl⟩) (⟨by simp [SO.mine], hx1⟩)
    · exact ja_go0 tz ta tb tc td te tf tg th tk n_0 far_0 T_ M_ _ q1 q2 q3 q4 q5 q6 q7 (fun n' far' g' ha hb => ⟨(n', far', g'), ha, hb, rfl, rfl, rfl⟩) (⟨by simp [SO.mine], hx1⟩)
  · exact h_.elim
theorem jb_eq (tz ta tb tc td te tf tg th tk n far : Int) (g : Ll) (T : Al (SV (stdA fsu true))) (M : Al (SO (stdA fsu true))) (KK : Ex → List (SV (stdA fsu true)) → List (SO (stdA fsu true)) → List Ll → Prop) : sCode Try.prog (sCall Try.prog 30 (spOf sp0) noLoop 20) (noLoop 16) 30 (false :: [false, true, true, false, false, true, true, false, false, true, false, true, true, true, true]) (bodyAt Try.prog 16 [false, true, true, false, false, true, true, false, false, true, false, true, true, true, true]) (hdL (bodyAt Try.prog 16 [false, true, true, false, false, true, true, false, false, true, false, true, true, true, true]) T M 34 5 [(20, .i .i64 ta), (6, .p 4 0)] [(4, .row 26 [.i .i64 tz, .i .i64 tb, .i .i64 tc, .i .i64 td, .i .i64 te, .i .i64 tf, .i .i64 tg, .i .i64 th, .i .i64 tk])] [(21, .i .i64 n), (3, .i .i64 far), (4, .ls true 5 (Ll.len g))] [] [(2, [.int .i64])] [g] []) (outL 5 (tsOf [21, 3, 4] []) [] [3] [(2, [.int .i64])] KK) =
  (cond (decide (n < ta))
 (InK .i64 (far + tb) ∧ ((Ll.len g) = (Ll.len g) ∧ ((Ll.len (g ++ [[(far + tb)]])) ≤ (1000000 : Int) ∧ (InK .i64 (n + (1 : Int)) ∧ (KK .normal [(.i .i64 (n + (1 : Int))), (.i .i64 (far + tb)), (.ls true 5 (Ll.len (g ++ [[(far + tb)]])))] [] [(g ++ [[(far + tb)]])])))))
 (KK (.exit 2) [(.i .i64 n), (.i .i64 far), (.ls true 5 (Ll.len g))] [] [g])) := by kernel_rfl
theorem jb_go (tz : Int) (ta : Int) (tb : Int) (tc : Int) (td : Int) (te : Int) (tf : Int) (tg : Int) (th : Int) (tk : Int) (n : Int) (far : Int) (g : Ll) (n_0 : Int) (far_0 : Int) (g_0 : Ll) (r1 : n_0 = (0 : Int)) (r2 : (0 : Int) ≤ far_0) (r3 : far_0 ≤ (20000000 : Int)) (r4 : (Ll.len g_0) ≤ (4000 : Int)) (T : Al (SV (stdA fsu true))) (M : Al (SO (stdA fsu true))) (KK : Ex → List (SV (stdA fsu true)) → List (SO (stdA fsu true)) → List Ll → Prop) (p1 : (1 : Int) ≤ ta) (p2 : ta ≤ (400 : Int)) (p3 : (100 : Int) ≤ tb) (p4 : tb ≤ (4000 : Int)) (hI : 0 ≤ n ∧ n ≤ ta ∧ far = far_0 + tb * n ∧ g = g_0 ++ jBlock far_0 tb n.toNat) (hn : ∀ (n' : Int) (far' : Int) (g' : Ll), 0 ≤ n' ∧ n' ≤ ta ∧ far' = far_0 + tb * n' ∧ g' = g_0 ++ jBlock far_0 tb n'.toNat → (ta - n').toNat < (ta - n).toNat → KK .normal [.i .i64 n', .i .i64 far', .ls true 5 (Ll.len g')] [] [g']) (hx1 : KK (.exit 2) [.i .i64 ta, .i .i64 (far_0 + tb * ta), .ls true 5 (Ll.len (g_0 ++ jBlock far_0 tb ta.toNat))] [] [(g_0 ++ jBlock far_0 tb ta.toNat)]) :
    sCode Try.prog (sCall Try.prog 30 (spOf sp0) noLoop 20) (noLoop 16) 30 (false :: [false, true, true, false, false, true, true, false, false, true, false, true, true, true, true]) (bodyAt Try.prog 16 [false, true, true, false, false, true, true, false, false, true, false, true, true, true, true]) (hdL (bodyAt Try.prog 16 [false, true, true, false, false, true, true, false, false, true, false, true, true, true, true]) T M 34 5 [(20, .i .i64 ta), (6, .p 4 0)] [(4, .row 26 [.i .i64 tz, .i .i64 tb, .i .i64 tc, .i .i64 td, .i .i64 te, .i .i64 tf, .i .i64 tg, .i .i64 th, .i .i64 tk])] [(21, .i .i64 n), (3, .i .i64 far), (4, .ls true 5 (Ll.len g))] [] [(2, [.int .i64])] [g] []) (outL 5 (tsOf [21, 3, 4] []) [] [3] [(2, [.int .i64])] KK) := by
  refine Eq.mpr (jb_eq tz ta tb tc td te tf tg th tk n far g T M KK) ?_
  obtain ⟨i0, i1, rfl, rfl⟩ := hI
  by_cases h : n < ta
  · rw [decide_eq_true h]
    have hm := mul_bd (show 0 ≤ tb by omega) (show tb ≤ 4000 by omega) i0 (show n ≤ 400 by omega)
    have e1 : far_0 + tb * n + tb = far_0 + tb * (n + 1) := by grind
    have e2 : g_0 ++ jBlock far_0 tb (n + 1).toNat = g_0 ++ jBlock far_0 tb n.toNat ++ [[far_0 + tb * (n + 1)]] := by
      rw [show (n + 1).toNat = n.toNat + 1 by omega, jBlock_succ, Int.toNat_of_nonneg i0, List.append_assoc, Int.mul_comm tb]
    have e3 : Ll.len (g_0 ++ jBlock far_0 tb n.toNat ++ [[far_0 + tb * (n + 1)]]) ≤ 1000000 := by
      show ((List.length _ : Nat) : Int) ≤ 1000000
      simp only [List.length_append, jBlock_len, List.length_cons, List.length_nil]
      have hg0 : (g_0.length : Int) ≤ 4000 := r4
      omega
    have hn' := hn (n + 1) _ _ ⟨by omega, by omega, rfl, rfl⟩ (by omega)
    rw [e2] at hn'
    rw [e1]
    simp only [InK64]
    exact ⟨by omega, by trivial, e3, by omega, hn'⟩
  · rw [decide_eq_false h]
    obtain rfl : n = ta := by omega
    first | exact hx1 | exact ⟨by omega, by omega, by omega, hx1⟩
abbrev jbF {A : Go.Rx.Alg} : Code → Go.Rx.SS A → (Go.Rx.Ex → Go.Rx.SS A → A.R) → A.R := fun c_ s_ K_ => match s_.T.get 20, s_.T.get 6, s_.H.get 4, s_.T.get 21, s_.T.get 3, s_.T.get 4, s_.H.get 3 with
  | some (.i .i64 ta), some (.p 4 0), some (.row t1 [.i .i64 tz, .i .i64 tb, .i .i64 tc, .i .i64 td, .i .i64 te, .i .i64 tf, .i .i64 tg, .i .i64 th, .i .i64 tk]), some (.i .i64 n), some (.i .i64 far), some (.ls true 3 m2), some (.list t3 k3 true g) => bif ((((Nat.beq s_.N 34 && Nat.beq s_.nx 5) && Nat.beq t1 26) && Nat.beq t3 2) && decide (k3 = [.int .i64])) then (A.need .eql m2 (A.len g) (A.need .eql n (A.lit 0) (A.need .leq (A.lit 1) ta (A.need .leq ta (A.lit 400) (A.need .leq (A.lit 100) tb (A.need .leq tb (A.lit 4000) (A.need .leq (A.lit 0) far (A.need .leq far (A.lit 20000000) (A.need .leq (A.len g) (A.lit 4000) (K_ (.exit 2) (Go.Rx.hdL c_ s_.T (Go.Rx.kills [3] s_.H) 34 5 [(20, .i .i64 ta), (6, .p 4 0)] [(4, .row 26 [.i .i64 tz, .i .i64 tb, .i .i64 tc, .i .i64 td, .i .i64 te, .i .i64 tf, .i .i64 tg, .i .i64 th, .i .i64 tk])] [(21, .i .i64 ta), (3, .i .i64 (A.app 7 [] [far, tb, ta])), (4, .ls true 5 (A.len (A.appL 52 [g] [far, tb, ta])))] [] [(2, [.int .i64])] [(A.appL 52 [g] [far, tb, ta])] (Go.Rx.addW ([3] ++ []) s_.wr)))))))))))) else A.fail "frame of jb"
  | _, _, _, _, _, _, _ => A.fail "jb"
theorem jbF_ok {d : Nat} (hd : 100 ≤ d) : LoopOK (fs := fsu) (ov := true) Try.prog AW d 16 [false, true, true, false, false, true, true, false, false, true, false, true, true, true, true] jbF := by
  intro m_ hm_ fn_ c0_ hfn_ hb_ c_ ro_ hc_ s_ K_ W_ ν_ S_ h_ hs_
  obtain rfl := body_of hfn_ hb_ hc_
  simp only [jbF] at h_
  split at h_
  · rename_i ta_0 t1 tz_0 tb_0 tc_0 td_0 te_0 tf_0 tg_0 th_0 tk_0 n_0_0 far_0_0 m2_0 t3 k3 g_0_0 g0 g1 g2 g3 g4 g5 g6
    obtain ⟨ta, rfl⟩ : ∃ q : Int, q = ta_0 := ⟨ta_0, rfl⟩
    obtain ⟨tz, rfl⟩ : ∃ q : Int, q = tz_0 := ⟨tz_0, rfl⟩
    obtain ⟨tb, rfl⟩ : ∃ q : Int, q = tb_0 := ⟨tb_0, rfl⟩
    obtain ⟨tc, rfl⟩ : ∃ q : Int, q = tc_0 := ⟨tc_0, rfl⟩
    obtain ⟨td, rfl⟩ : ∃ q : Int, q = td_0 := ⟨td_0, rfl⟩
    obtain ⟨te, rfl⟩ : ∃ q : Int, q = te_0 := ⟨te_0, rfl⟩
    obtain ⟨tf, rfl⟩ : ∃ q : Int, q = tf_0 := ⟨tf_0, rfl⟩
    obtain ⟨tg, rfl⟩ : ∃ q : Int, q = tg_0 := ⟨tg_0, rfl⟩
    obtain ⟨th, rfl⟩ : ∃ q : Int, q = th_0 := ⟨th_0, rfl⟩
    obtain ⟨tk, rfl⟩ : ∃ q : Int, q = tk_0 := ⟨tk_0, rfl⟩
    obtain ⟨n_0, rfl⟩ : ∃ q : Int, q = n_0_0 := ⟨n_0_0, rfl⟩
    obtain ⟨far_0, rfl⟩ : ∃ q : Int, q = far_0_0 := ⟨far_0_0, rfl⟩
    obtain ⟨m2, rfl⟩ : ∃ q : Int, q = m2_0 := ⟨m2_0, rfl⟩
    obtain ⟨g_0, rfl⟩ : ∃ q : Ll, q = g_0_0 := ⟨g_0_0, rfl⟩
    obtain ⟨T_, FN_, M_, snx_, wr_⟩ := s_
    have hN : ((((Nat.beq FN_ 34 && Nat.beq snx_ 5) && Nat.beq t1 26) && Nat.beq t3 2) && decide (k3 = [.int .i64])) = true := by
      cases hq : (((((Nat.beq FN_ 34 && Nat.beq snx_ 5) && Nat.beq t1 26) && Nat.beq t3 2) && decide (k3 = [.int .i64])) : Bool) with
      | true => rfl
      | false => (rw [hq] at h_; exact h_.elim)
    rw [hN, cond_true] at h_
    simp only [Bool.and_eq_true, beq_iff, decide_eq_true_eq] at hN
    obtain ⟨⟨⟨⟨rfl, rfl⟩, rfl⟩, rfl⟩, rfl⟩ := hN
    obtain ⟨q0, h_⟩ := h_
    obtain rfl : m2 = (Ll.len g_0) := q0
    obtain ⟨q1, h_⟩ := h_
    have q1 : n_0 = (0 : Int) := q1
    obtain ⟨q2, h_⟩ := h_
    have q2 : (1 : Int) ≤ ta := q2
    obtain ⟨q3, h_⟩ := h_
    have q3 : ta ≤ (400 : Int) := q3
    obtain ⟨q4, h_⟩ := h_
    have q4 : (100 : Int) ≤ tb := q4
    obtain ⟨q5, h_⟩ := h_
    have q5 : tb ≤ (4000 : Int) := q5
    obtain ⟨q6, h_⟩ := h_
    have q6 : (0 : Int) ≤ far_0 := q6
    obtain ⟨q7, h_⟩ := h_
    have q7 : far_0 ≤ (20000000 : Int) := q7
    obtain ⟨q8, h_⟩ := h_
    have q8 : (Ll.len g_0) ≤ (4000 : Int) := q8
    replace h_ : K_ (.exit 2) (hdL (bodyAt Try.prog 16 [false, true, true, false, false, true, true, false, false, true, false, true, true, true, true]) T_ (kills [3] M_) 34 5 [(20, .i .i64 ta), (6, .p 4 0)] [(4, .row 26 [.i .i64 tz, .i .i64 tb, .i .i64 tc, .i .i64 td, .i .i64 te, .i .i64 tf, .i .i64 tg, .i .i64 th, .i .i64 tk])] [(21, .i .i64 ta), (3, .i .i64 (far_0 + tb * ta)), (4, .ls true 5 (Ll.len (g_0 ++ jBlock far_0 tb ta.toNat)))] [] [(2, [.int .i64])] [(g_0 ++ jBlock far_0 tb ta.toNat)] (addW ([3] ++ []) wr_)) := h_
    have hx1 : K_ (.exit 2) (hdL (bodyAt Try.prog 16 [false, true, true, false, false, true, true, false, false, true, false, true, true, true, true]) T_ (kills [3] M_) 34 5 [(20, .i .i64 ta), (6, .p 4 0)] [(4, .row 26 [.i .i64 tz, .i .i64 tb, .i .i64 tc, .i .i64 td, .i .i64 te, .i .i64 tf, .i .i64 tg, .i .i64 th, .i .i64 tk])] [(21, .i .i64 ta), (3, .i .i64 (far_0 + tb * ta)), (4, .ls true 5 (Ll.len (g_0 ++ jBlock far_0 tb ta.toNat)))] [] [(2, [.int .i64])] [(g_0 ++ jBlock far_0 tb ta.toNat)] (addW ([3] ++ []) wr_)) := by
      have h2 := h_
      exact h2
    refine loop_ruleL (fs := fsu) (ov := true) (s := ⟨T_, 34, M_, 5, wr_⟩) (X := Int × Int × Ll) (B := []) (mv := [3]) (kt := [(20, .i .i64 ta), (6, .p 4 0)]) (kr := [(4, .row 26 [.i .i64 tz, .i .i64 tb, .i .i64 tc, .i .i64 td, .i .i64 te, .i .i64 tf, .i .i64 tg, .i .i64 th, .i .i64 tk])]) (ty := [(2, [.int .i64])]) (x := (n_0, far_0, g_0))
      (Inv := (fun x : Int × Int × Ll => match x with | (n, far, g) => 0 ≤ n ∧ n ≤ ta ∧ far = far_0 + tb * n ∧ g = g_0 ++ jBlock far_0 tb n.toNat)) (μ := (fun x : Int × Int × Ll => match x with | (n, far, g) => (ta - n).toNat)) (ts := tsOf [21, 3, 4] []) (sl := (fun x : Int × Int × Ll => match x with | (n, far, g) => [.i .i64 n, .i .i64 far, .ls true 5 (Ll.len g)])) (bl := (fun x : Int × Int × Ll => match x with | (n, far, g) => [])) (ll := (fun x : Int × Int × Ll => match x with | (n, far, g) => [g])) (Q := fun e_ vs_ os_ hs_ => K_ e_ (hdL (bodyAt Try.prog 16 [false, true, true, false, false, true, true, false, false, true, false, true, true, true, true]) T_ (kills [3] M_) 34 5 [(20, .i .i64 ta), (6, .p 4 0)] [(4, .row 26 [.i .i64 tz, .i .i64 tb, .i .i64 tc, .i .i64 td, .i .i64 te, .i .i64 tf, .i .i64 tg, .i .i64 th, .i .i64 tk])] (((tsOf [21, 3, 4] []) e_).zip vs_) ([].zip os_) [(2, [.int .i64])] hs_ (addW ([3] ++ []) wr_)))
      (L := LL) (U := 30) (cs := sCall Try.prog 30 (spOf sp0) noLoop 20) (call := CN Try.prog AW m_) (lp := noLoop 16) (root := c0_) (p := [false, true, true, false, false, true, true, false, false, true, false, true, true, true, true])
      (show CallSOK _ _ from by
        have := sCall_ok (P := Try.prog) (d := m_ - 20) (U := 30) (lp := noLoop) (sp0_ok (fs := fsu) (ov := true) (d := m_ - 20)) (sp0_aw (fs := fsu) (ov := true)) (noLoop_ok) (by decide) 20
        rwa [show 20 + (m_ - 20) = m_ by omega] at this) (fun p f h => by cases h) (by decide) hc_
      (fun x o ho => by cases ho)
      (fun x hx => by cases hx) (fun x hx => by
        simp only [List.mem_cons, List.not_mem_nil, or_false] at hx
        rcases hx with rfl
        · exact ⟨_, g6, rfl⟩) (fun x hx => by cases hx)
      (fun x hx => by
        simp only [List.mem_cons, List.not_mem_nil, or_false] at hx
        rcases hx with rfl | rfl
        · exact g0
        · exact g1) (fun x hx => by
        simp only [List.mem_cons, List.not_mem_nil, or_false] at hx
        rcases hx with rfl
        · exact ⟨g2, by simp⟩) ?_ (fun _ _ _ _ _ h => h) ?_ ?_ ?_ hs_
    · rintro ⟨n, far, g⟩ hI
      exact jb_go tz ta tb tc td te tf tg th tk n far g n_0 far_0 g_0 q1 q6 q7 q8 T_ (kills [3] M_) _ q2 q3 q4 q5 hI (fun n' far' g' ha hb => ⟨(n', far', g'), ha, hb, rfl, rfl, rfl⟩) (⟨by simp [SO.mine], hx1⟩)
    · show 0 ≤ n_0 ∧ n_0 ≤ ta ∧ far_0 = far_0 + tb * n_0 ∧ g_0 = g_0 ++ jBlock far_0 tb n_0.toNat
      exact ⟨by omega, by omega, by rw [q1]; omega, by rw [q1]; simp [jBlock]⟩
    · show (ta - n_0).toNat < LL
      exact Nat.lt_of_le_of_lt (show _ ≤ 1000 by omega) (by decide)
    · exact ⟨⟨[.i .i64 n_0, .i .i64 far_0, .ls true 3 (Ll.len g_0)], [], [some 3], [some 3], by simp [gets, tsOf, g0, g1, g2, g3, g4, g5, g6], by simp [gets, g0, g1, g2, g3, g4, g5, g6], rfl, rfl, by simp [listsOf, g6] <;> rfl⟩⟩
  · exact h_.elim
theorem rja_eq (i n far : Int) (l g : Ll) (T : Al (SV (stdA fsu true))) (M : Al (SO (stdA fsu true))) (KK : Ex → List (SV (stdA fsu true)) → List (SO (stdA fsu true)) → List Ll → Prop) : sCode Try.prog (sCall Try.prog 30 (spOf sp0) noLoop 20) (noLoop 17) 30 (false :: [false, true, false, false, true, false, false, true, false, true, true, true, true]) (bodyAt Try.prog 17 [false, true, false, false, true, false, false, true, false, true, true, true, true]) (hdL (bodyAt Try.prog 17 [false, true, false, false, true, false, false, true, false, true, true, true, true]) T M 41 3 [(1, .p 1 0), (5, .i .i64 i)] [(0, .list 0 [.int .i64, .int .i64, .int .i64, .int .i64, .int .i64, .int .i64, .int .i64, .int .i64, .int .i64] false l), (1, .row 24 [.ls false 0 (Ll.len l)])] [(6, .i .i64 n), (4, .i .i64 far), (3, .ls true 3 (Ll.len g))] [] [(2, [.int .i64])] [g] []) (outL 3 (tsOf [6, 4, 3] []) [] [2] [(2, [.int .i64])] KK) =
  ((0 : Int) ≤ i ∧ (i < (Ll.len l) ∧ (i < (Ll.len l) ∧ (cond (decide (n < (Ll.get l i 0)))
 ((0 : Int) ≤ i ∧ (i < (Ll.len l) ∧ (i < (Ll.len l) ∧ (InK .i64 (far + (Ll.get l i 1)) ∧ ((Ll.len g) = (Ll.len g) ∧ ((Ll.len (g ++ [[(far + (Ll.get l i 1))]])) ≤ (1000000 : Int) ∧ (InK .i64 (n + (1 : Int)) ∧ (KK .normal [(.i .i64 (n + (1 : Int))), (.i .i64 (far + (Ll.get l i 1))), (.ls true 3 (Ll.len (g ++ [[(far + (Ll.get l i 1))]])))] [] [(g ++ [[(far + (Ll.get l i 1))]])]))))))))
 (KK (.exit 2) [(.i .i64 n), (.i .i64 far), (.ls true 3 (Ll.len g))] [] [g]))))) := by kernel_rfl
theorem rja_go (i : Int) (l : Ll) (n : Int) (far : Int) (g : Ll) (n_0 : Int) (far_0 : Int) (r1 : n_0 = (0 : Int)) (r2 : (0 : Int) ≤ far_0) (r3 : far_0 ≤ (20000000 : Int)) (T : Al (SV (stdA fsu true))) (M : Al (SO (stdA fsu true))) (KK : Ex → List (SV (stdA fsu true)) → List (SO (stdA fsu true)) → List Ll → Prop) (p1 : (1 : Int) ≤ (Ll.get l i 0)) (p2 : (Ll.get l i 0) ≤ (400 : Int)) (p3 : (100 : Int) ≤ (Ll.get l i 1)) (p4 : (Ll.get l i 1) ≤ (4000 : Int)) (p5 : (0 : Int) ≤ i) (p6 : i < (Ll.len l)) (hI : 0 ≤ n ∧ n ≤ (Ll.get l i 0) ∧ far = far_0 + (Ll.get l i 1) * n ∧ g = [[0]] ++ jBlock far_0 (Ll.get l i 1) n.toNat) (hn : ∀ (n' : Int) (far' : Int) (g' : Ll), 0 ≤ n' ∧ n' ≤ (Ll.get l i 0) ∧ far' = far_0 + (Ll.get l i 1) * n' ∧ g' = [[0]] ++ jBlock far_0 (Ll.get l i 1) n'.toNat → ((Ll.get l i 0) - n').toNat < ((Ll.get l i 0) - n).toNat → KK .normal [.i .i64 n', .i .i64 far', .ls true 3 (Ll.len g')] [] [g']) (hx1 : KK (.exit 2) [.i .i64 (Ll.get l i 0), .i .i64 (far_0 + (Ll.get l i 1) * (Ll.get l i 0)), .ls true 3 (Ll.len ([[0]] ++ jBlock far_0 (Ll.get l i 1) (Ll.get l i 0).toNat))] [] [([[0]] ++ jBlock far_0 (Ll.get l i 1) (Ll.get l i 0).toNat)]) :
    sCode Try.prog (sCall Try.prog 30 (spOf sp0) noLoop 20) (noLoop 17) 30 (false :: [false, true, false, false, true, false, false, true, false, true, true, true, true]) (bodyAt Try.prog 17 [false, true, false, false, true, false, false, true, false, true, true, true, true]) (hdL (bodyAt Try.prog 17 [false, true, false, false, true, false, false, true, false, true, true, true, true]) T M 41 3 [(1, .p 1 0), (5, .i .i64 i)] [(0, .list 0 [.int .i64, .int .i64, .int .i64, .int .i64, .int .i64, .int .i64, .int .i64, .int .i64, .int .i64] false l), (1, .row 24 [.ls false 0 (Ll.len l)])] [(6, .i .i64 n), (4, .i .i64 far), (3, .ls true 3 (Ll.len g))] [] [(2, [.int .i64])] [g] []) (outL 3 (tsOf [6, 4, 3] []) [] [2] [(2, [.int .i64])] KK) := by
  refine Eq.mpr (rja_eq i n far l g T M KK) ?_
  obtain ⟨i0, i1, rfl, rfl⟩ := hI
  by_cases h : n < (Ll.get l i 0)
  · rw [decide_eq_true h]
    have hm := mul_bd (show 0 ≤ (Ll.get l i 1) by omega) (show (Ll.get l i 1) ≤ 4000 by omega) i0 (show n ≤ 400 by omega)
    have e1 : far_0 + (Ll.get l i 1) * n + (Ll.get l i 1) = far_0 + (Ll.get l i 1) * (n + 1) := by grind
    have e2 : [[0]] ++ jBlock far_0 (Ll.get l i 1) (n + 1).toNat = [[0]] ++ jBlock far_0 (Ll.get l i 1) n.toNat ++ [[far_0 + (Ll.get l i 1) * (n + 1)]] := by
      rw [show (n + 1).toNat = n.toNat + 1 by omega, jBlock_succ, Int.toNat_of_nonneg i0, List.append_assoc, Int.mul_comm (Ll.get l i 1)]
    have e3 : Ll.len ([[0]] ++ jBlock far_0 (Ll.get l i 1) n.toNat ++ [[far_0 + (Ll.get l i 1) * (n + 1)]]) ≤ 1000000 := by
      show ((List.length _ : Nat) : Int) ≤ 1000000
      simp only [List.length_append, jBlock_len, List.length_cons, List.length_nil]
      omega
    have hn' := hn (n + 1) _ _ ⟨by omega, by omega, rfl, rfl⟩ (by omega)
    rw [e2] at hn'
    rw [e1]
    simp only [InK64]
    exact ⟨by omega, by omega, by omega, by omega, by omega, by omega, by omega, by trivial, e3, by omega, hn'⟩
  · rw [decide_eq_false h]
    obtain rfl : n = (Ll.get l i 0) := by omega
    first | exact hx1 | exact ⟨by omega, by omega, by omega, hx1⟩
theorem rja0_eq (i n far : Int) (l : Ll) (T : Al (SV (stdA fsu true))) (M : Al (SO (stdA fsu true))) (KK : Ex → List (SV (stdA fsu true)) → List (SO (stdA fsu true)) → List Ll → Prop) : sCode Try.prog (sCall Try.prog 30 (spOf sp0) noLoop 20) (noLoop 17) 30 (false :: [false, true, false, false, true, false, false, true, false, true, true, true, true]) (bodyAt Try.prog 17 [false, true, false, false, true, false, false, true, false, true, true, true, true]) ⟨push [(1, .p 1 0), (5, .i .i64 i), (6, .i .i64 n), (4, .i .i64 far), (3, .sl 2 0 1 1)] T, 41, push [(0, .list 0 [.int .i64, .int .i64, .int .i64, .int .i64, .int .i64, .int .i64, .int .i64, .int .i64, .int .i64] false l), (1, .row 24 [.ls false 0 (Ll.len l)]), (2, .row 2 [.i .i64 (0 : Int)])] M, 3, []⟩ (outL 3 (tsOf [6, 4, 3] []) [] [2] [(2, [.int .i64])] KK) =
  ((0 : Int) ≤ i ∧ (i < (Ll.len l) ∧ (i < (Ll.len l) ∧ (cond (decide (n < (Ll.get l i 0)))
 ((0 : Int) ≤ i ∧ (i < (Ll.len l) ∧ (i < (Ll.len l) ∧ (InK .i64 (far + (Ll.get l i 1)) ∧ ((Ll.len ([[(0 : Int)]] ++ [[(far + (Ll.get l i 1))]])) ≤ (1000000 : Int) ∧ (InK .i64 (n + (1 : Int)) ∧ (KK .normal [(.i .i64 (n + (1 : Int))), (.i .i64 (far + (Ll.get l i 1))), (.ls true 3 (Ll.len ([[(0 : Int)]] ++ [[(far + (Ll.get l i 1))]])))] [] [([[(0 : Int)]] ++ [[(far + (Ll.get l i 1))]])])))))))
 False)))) := by kernel_rfl
theorem rja_go0 (i : Int) (l : Ll) (n_0 : Int) (far_0 : Int) (T : Al (SV (stdA fsu true))) (M : Al (SO (stdA fsu true))) (KK : Ex → List (SV (stdA fsu true)) → List (SO (stdA fsu true)) → List Ll → Prop) (p1 : n_0 = (0 : Int)) (p2 : (1 : Int) ≤ (Ll.get l i 0)) (p3 : (Ll.get l i 0) ≤ (400 : Int)) (p4 : (100 : Int) ≤ (Ll.get l i 1)) (p5 : (Ll.get l i 1) ≤ (4000 : Int)) (p6 : (0 : Int) ≤ far_0) (p7 : far_0 ≤ (20000000 : Int)) (p8 : (0 : Int) ≤ i) (p9 : i < (Ll.len l)) (hn : ∀ (n' : Int) (far' : Int) (g' : Ll), 0 ≤ n' ∧ n' ≤ (Ll.get l i 0) ∧ far' = far_0 + (Ll.get l i 1) * n' ∧ g' = [[0]] ++ jBlock far_0 (Ll.get l i 1) n'.toNat → ((Ll.get l i 0) - n').toNat < 1000 → KK .normal [.i .i64 n', .i .i64 far', .ls true 3 (Ll.len g')] [] [g']) (hx1 : KK (.exit 2) [.i .i64 (Ll.get l i 0), .i .i64 (far_0 + (Ll.get l i 1) * (Ll.get l i 0)), .ls true 3 (Ll.len ([[0]] ++ jBlock far_0 (Ll.get l i 1) (Ll.get l i 0).toNat))] [] [([[0]] ++ jBlock far_0 (Ll.get l i 1) (Ll.get l i 0).toNat)]) :
    sCode Try.prog (sCall Try.prog 30 (spOf sp0) noLoop 20) (noLoop 17) 30 (false :: [false, true, false, false, true, false, false, true, false, true, true, true, true]) (bodyAt Try.prog 17 [false, true, false, false, true, false, false, true, false, true, true, true, true]) ⟨push [(1, .p 1 0), (5, .i .i64 i), (6, .i .i64 n_0), (4, .i .i64 far_0), (3, .sl 2 0 1 1)] T, 41, push [(0, .list 0 [.int .i64, .int .i64, .int .i64, .int .i64, .int .i64, .int .i64, .int .i64, .int .i64, .int .i64] false l), (1, .row 24 [.ls false 0 (Ll.len l)]), (2, .row 2 [.i .i64 (0 : Int)])] M, 3, []⟩ (outL 3 (tsOf [6, 4, 3] []) [] [2] [(2, [.int .i64])] KK) := by
  refine Eq.mpr (rja0_eq i n_0 far_0 l T M KK) ?_
  have h1 : n_0 < Ll.get l i 0 := by omega
  rw [decide_eq_true h1]
  have hn' := hn 1 (far_0 + Ll.get l i 1) ([[0]] ++ [[far_0 + Ll.get l i 1]]) ⟨by omega, by omega, by grind, by
    rw [show (1 : Int).toNat = 0 + 1 from rfl, jBlock_succ]; simp [jBlock]⟩ (by omega)
  rw [p1]
  exact ⟨by omega, by omega, by omega, by omega, by omega, by omega, by rw [InK64]; omega, by show ((2 : Nat) : Int) ≤ 1000000; omega, by rw [InK64]; omega, hn'⟩
abbrev rjaF {A : Go.Rx.Alg} : Code → Go.Rx.SS A → (Go.Rx.Ex → Go.Rx.SS A → A.R) → A.R := fun c_ s_ K_ => match s_.T.get 1, s_.T.get 5, s_.H.get 0, s_.H.get 1, s_.T.get 6, s_.T.get 4, s_.T.get 3, s_.H.get 2 with
  | some (.p 1 0), some (.i .i64 i), some (.list t1 k1 false l), some (.row t2 [.ls false 0 m3]), some (.i .i64 n), some (.i .i64 far), some (.sl 2 0 1 1), some (.row t4 [.i .i64 m5]) => bif (((((Nat.beq s_.N 41 && Nat.beq s_.nx 3) && Nat.beq t1 0) && decide (k1 = [.int .i64, .int .i64, .int .i64, .int .i64, .int .i64, .int .i64, .int .i64, .int .i64, .int .i64])) && Nat.beq t2 24) && Nat.beq t4 2) then (A.need .eql m3 (A.len l) (A.need .eql m5 (A.lit 0) (A.need .eql n (A.lit 0) (A.need .leq (A.lit 1) (A.app 9 [l] [i]) (A.need .leq (A.app 9 [l] [i]) (A.lit 400) (A.need .leq (A.lit 100) (A.app 10 [l] [i]) (A.need .leq (A.app 10 [l] [i]) (A.lit 4000) (A.need .leq (A.lit 0) far (A.need .leq far (A.lit 20000000) (A.need .leq (A.lit 0) i (A.need .lss i (A.len l) (K_ (.exit 2) (Go.Rx.hdL c_ s_.T (Go.Rx.kills [2] s_.H) 41 3 [(1, .p 1 0), (5, .i .i64 i)] [(0, .list 0 [.int .i64, .int .i64, .int .i64, .int .i64, .int .i64, .int .i64, .int .i64, .int .i64, .int .i64] false l), (1, .row 24 [.ls false 0 (A.len l)])] [(6, .i .i64 (A.app 9 [l] [i])), (4, .i .i64 (A.app 7 [] [far, (A.app 10 [l] [i]), (A.app 9 [l] [i])])), (3, .ls true 3 (A.len (A.appL 51 [] [far, (A.app 10 [l] [i]), (A.app 9 [l] [i])])))] [] [(2, [.int .i64])] [(A.appL 51 [] [far, (A.app 10 [l] [i]), (A.app 9 [l] [i])])] (Go.Rx.addW ([2] ++ []) s_.wr)))))))))))))) else A.fail "frame of rja"
  | _, _, _, _, _, _, _, _ => A.fail "rja"
theorem rjaF_ok {d : Nat} (hd : 100 ≤ d) : LoopOK (fs := fsu) (ov := true) Try.prog AW d 17 [false, true, false, false, true, false, false, true, false, true, true, true, true] rjaF := by
  intro m_ hm_ fn_ c0_ hfn_ hb_ c_ ro_ hc_ s_ K_ W_ ν_ S_ h_ hs_
  obtain rfl := body_of hfn_ hb_ hc_
  simp only [rjaF] at h_
  split at h_
  · rename_i i_0 t1 k1 l_0 t2 m3_0 n_0_0 far_0_0 t4 m5_0 g0 g1 g2 g3 g4 g5 g6 g7
    obtain ⟨i, rfl⟩ : ∃ q : Int, q = i_0 := ⟨i_0, rfl⟩
    obtain ⟨l, rfl⟩ : ∃ q : Ll, q = l_0 := ⟨l_0, rfl⟩
    obtain ⟨m3, rfl⟩ : ∃ q : Int, q = m3_0 := ⟨m3_0, rfl⟩
    obtain ⟨n_0, rfl⟩ : ∃ q : Int, q = n_0_0 := ⟨n_0_0, rfl⟩
    obtain ⟨far_0, rfl⟩ : ∃ q : Int, q = far_0_0 := ⟨far_0_0, rfl⟩
    obtain ⟨m5, rfl⟩ : ∃ q : Int, q = m5_0 := ⟨m5_0, rfl⟩
    obtain ⟨T_, FN_, M_, snx_, wr_⟩ := s_
    have hN : (((((Nat.beq FN_ 41 && Nat.beq snx_ 3) && Nat.beq t1 0) && decide (k1 = [.int .i64, .int .i64, .int .i64, .int .i64, .int .i64, .int .i64, .int .i64, .int .i64, .int .i64])) && Nat.beq t2 24) && Nat.beq t4 2) = true := by
      cases hq : ((((((Nat.beq FN_ 41 && Nat.beq snx_ 3) && Nat.beq t1 0) && decide (k1 = [.int .i64, .int .i64, .int .i64, .int .i64, .int .i64, .int .i64, .int .i64, .int .i64, .int .i64])) && Nat.beq t2 24) && Nat.beq t4 2) : Bool) with
      | true => rfl
      | false => (rw [hq] at h_; exact h_.elim)
    rw [hN, cond_true] at h_
    simp only [Bool.and_eq_true, beq_iff, decide_eq_true_eq] at hN
    obtain ⟨⟨⟨⟨⟨rfl, rfl⟩, rfl⟩, rfl⟩, rfl⟩, rfl⟩ := hN
    obtain ⟨q0, h_⟩ := h_
    obtain rfl : m3 = (Ll.len l) := q0
    obtain ⟨q0, h_⟩ := h_
    obtain rfl : m5 = (0 : Int) := q0
    obtain ⟨q1, h_⟩ := h_
    have q1 : n_0 = (0 : Int) := q1
    obtain ⟨q2, h_⟩ := h_
    have q2 : (1 : Int) ≤ (Ll.get l i 0) := q2
    obtain ⟨q3, h_⟩ := h_
    have q3 : (Ll.get l i 0) ≤ (400 : Int) := q3
    obtain ⟨q4, h_⟩ := h_
    have q4 : (100 : Int) ≤ (Ll.get l i 1) := q4
    obtain ⟨q5, h_⟩ := h_
    have q5 : (Ll.get l i 1) ≤ (4000 : Int) := q5
    obtain ⟨q6, h_⟩ := h_
    have q6 : (0 : Int) ≤ far_0 := q6
    obtain ⟨q7, h_⟩ := h_
    have q7 : far_0 ≤ (20000000 : Int) := q7
    obtain ⟨q8, h_⟩ := h_
    have q8 : (0 : Int) ≤ i := q8
    obtain ⟨q9, h_⟩ := h_
    have q9 : i < (Ll.len l) := q9
    replace h_ : K_ (.exit 2) (hdL (bodyAt Try.prog 17 [false, true, false, false, true, false, false, true, false, true, true, true, true]) T_ (kills [2] M_) 41 3 [(1, .p 1 0), (5, .i .i64 i)] [(0, .list 0 [.int .i64, .int .i64, .int .i64, .int .i64, .int .i64, .int .i64, .int .i64, .int .i64, .int .i64] false l), (1, .row 24 [.ls false 0 (Ll.len l)])] [(6, .i .i64 (Ll.get l i 0)), (4, .i .i64 (far_0 + (Ll.get l i 1) * (Ll.get l i 0))), (3, .ls true 3 (Ll.len ([[0]] ++ jBlock far_0 (Ll.get l i 1) (Ll.get l i 0).toNat)))] [] [(2, [.int .i64])] [([[0]] ++ jBlock far_0 (Ll.get l i 1) (Ll.get l i 0).toNat)] (addW ([2] ++ []) wr_)) := h_
    have hx1 : K_ (.exit 2) (hdL (bodyAt Try.prog 17 [false, true, false, false, true, false, false, true, false, true, true, true, true]) T_ (kills [2] M_) 41 3 [(1, .p 1 0), (5, .i .i64 i)] [(0, .list 0 [.int .i64, .int .i64, .int .i64, .int .i64, .int .i64, .int .i64, .int .i64, .int .i64, .int .i64] false l), (1, .row 24 [.ls false 0 (Ll.len l)])] [(6, .i .i64 (Ll.get l i 0)), (4, .i .i64 (far_0 + (Ll.get l i 1) * (Ll.get l i 0))), (3, .ls true 3 (Ll.len ([[0]] ++ jBlock far_0 (Ll.get l i 1) (Ll.get l i 0).toNat)))] [] [(2, [.int .i64])] [([[0]] ++ jBlock far_0 (Ll.get l i 1) (Ll.get l i 0).toNat)] (addW ([2] ++ []) wr_)) := by
      have h2 := h_
      exact h2
    refine loop_ruleF (fs := fsu) (ov := true) (s := ⟨T_, 41, M_, 3, wr_⟩) (X := Int × Int × Ll) (B := []) (mv := [2]) (kt := [(1, .p 1 0), (5, .i .i64 i)]) (kr := [(0, .list 0 [.int .i64, .int .i64, .int .i64, .int .i64, .int .i64, .int .i64, .int .i64, .int .i64, .int .i64] false l), (1, .row 24 [.ls false 0 (Ll.len l)])]) (kt0 := [(1, .p 1 0), (5, .i .i64 i), (6, .i .i64 n_0), (4, .i .i64 far_0), (3, .sl 2 0 1 1)]) (kr0 := [(0, .list 0 [.int .i64, .int .i64, .int .i64, .int .i64, .int .i64, .int .i64, .int .i64, .int .i64, .int .i64] false l), (1, .row 24 [.ls false 0 (Ll.len l)]), (2, .row 2 [.i .i64 (0 : Int)])]) (ty := [(2, [.int .i64])]) (m := 1000)
      (Inv := (fun x : Int × Int × Ll => match x with | (n, far, g) => 0 ≤ n ∧ n ≤ (Ll.get l i 0) ∧ far = far_0 + (Ll.get l i 1) * n ∧ g = [[0]] ++ jBlock far_0 (Ll.get l i 1) n.toNat)) (μ := (fun x : Int × Int × Ll => match x with | (n, far, g) => ((Ll.get l i 0) - n).toNat)) (ts := tsOf [6, 4, 3] []) (sl := (fun x : Int × Int × Ll => match x with | (n, far, g) => [.i .i64 n, .i .i64 far, .ls true 3 (Ll.len g)])) (bl := (fun x : Int × Int × Ll => match x with | (n, far, g) => [])) (ll := (fun x : Int × Int × Ll => match x with | (n, far, g) => [g])) (Q := fun e_ vs_ os_ hs_ => K_ e_ (hdL (bodyAt Try.prog 17 [false, true, false, false, true, false, false, true, false, true, true, true, true]) T_ (kills [2] M_) 41 3 [(1, .p 1 0), (5, .i .i64 i)] [(0, .list 0 [.int .i64, .int .i64, .int .i64, .int .i64, .int .i64, .int .i64, .int .i64, .int .i64, .int .i64] false l), (1, .row 24 [.ls false 0 (Ll.len l)])] (((tsOf [6, 4, 3] []) e_).zip vs_) ([].zip os_) [(2, [.int .i64])] hs_ (addW ([2] ++ []) wr_)))
      (L := LL) (U := 30) (cs := sCall Try.prog 30 (spOf sp0) noLoop 20) (call := CN Try.prog AW m_) (lp := noLoop 17) (root := c0_) (p := [false, true, false, false, true, false, false, true, false, true, true, true, true])
      (show CallSOK _ _ from by
        have := sCall_ok (P := Try.prog) (d := m_ - 20) (U := 30) (lp := noLoop) (sp0_ok (fs := fsu) (ov := true) (d := m_ - 20)) (sp0_aw (fs := fsu) (ov := true)) (noLoop_ok) (by decide) 20
        rwa [show 20 + (m_ - 20) = m_ by omega] at this) (fun p f h => by cases h) (by decide) hc_
      (fun x o ho => by cases ho)
      (fun x hx => by cases hx) (fun x hx => by
        simp only [List.mem_cons, List.not_mem_nil, or_false] at hx
        rcases hx with rfl
        · exact ⟨_, g7, rfl⟩) (fun x hx => by cases hx)
      (fun x hx => by
        simp only [List.mem_cons, List.not_mem_nil, or_false] at hx
        rcases hx with rfl | rfl
        · exact g0
        · exact g1) (fun x hx => by
        simp only [List.mem_cons, List.not_mem_nil, or_false] at hx
        rcases hx with rfl | rfl
        · exact ⟨g2, by simp⟩
        · exact ⟨g3, by simp⟩) ?_ (fun _ _ _ _ _ h => h) (by decide) (fun x hx => by
        simp only [List.mem_cons, List.not_mem_nil, or_false] at hx
        rcases hx with rfl | rfl | rfl | rfl | rfl
        · exact g0
        · exact g1
        · exact g4
        · exact g5
        · exact g6) (fun x hx => by
        simp only [List.mem_cons, List.not_mem_nil, or_false] at hx
        rcases hx with rfl | rfl | rfl
        · exact g2
        · exact g3
        · exact g7) ?_ hs_
    · rintro ⟨n, far, g⟩ hI
      exact rja_go i l n far g n_0 far_0 q1 q6 q7 T_ (kills [2] M_) _ q2 q3 q4 q5 q8 q9 hI (fun n' far' g' ha hb => ⟨(n', far', g'), ha, hb, rfl, rfl, rfl⟩) (⟨by simp [SO.mine], hx1⟩)
    · exact rja_go0 i l n_0 far_0 T_ M_ _ q1 q2 q3 q4 q5 q6 q7 q8 q9 (fun n' far' g' ha hb => ⟨(n', far', g'), ha, hb, rfl, rfl, rfl⟩) (⟨by simp [SO.mine], hx1⟩)
  · exact h_.elim
theorem rjb_eq (i n far : Int) (l g : Ll) (T : Al (SV (stdA fsu true))) (M : Al (SO (stdA fsu true))) (KK : Ex → List (SV (stdA fsu true)) → List (SO (stdA fsu true)) → List Ll → Prop) : sCode Try.prog (sCall Try.prog 30 (spOf sp0) noLoop 20) (noLoop 17) 30 (false :: [false, true, false, false, true, false, false, true, false, true, true, true, true]) (bodyAt Try.prog 17 [false, true, false, false, true, false, false, true, false, true, true, true, true]) (hdL (bodyAt Try.prog 17 [false, true, false, false, true, false, false, true, false, true, true, true, true]) T M 41 4 [(1, .p 1 0), (5, .i .i64 i)] [(0, .list 0 [.int .i64, .int .i64, .int .i64, .int .i64, .int .i64, .int .i64, .int .i64, .int .i64, .int .i64] false l), (1, .row 24 [.ls false 0 (Ll.len l)])] [(6, .i .i64 n), (4, .i .i64 far), (3, .ls true 4 (Ll.len g))] [] [(2, [.int .i64])] [g] []) (outL 4 (tsOf [6, 4, 3] []) [] [3] [(2, [.int .i64])] KK) =
  ((0 : Int) ≤ i ∧ (i < (Ll.len l) ∧ (i < (Ll.len l) ∧ (cond (decide (n < (Ll.get l i 0)))
 ((0 : Int) ≤ i ∧ (i < (Ll.len l) ∧ (i < (Ll.len l) ∧ (InK .i64 (far + (Ll.get l i 1)) ∧ ((Ll.len g) = (Ll.len g) ∧ ((Ll.len (g ++ [[(far + (Ll.get l i 1))]])) ≤ (1000000 : Int) ∧ (InK .i64 (n + (1 : Int)) ∧ (KK .normal [(.i .i64 (n + (1 : Int))), (.i .i64 (far + (Ll.get l i 1))), (.ls true 4 (Ll.len (g ++ [[(far + (Ll.get l i 1))]])))] [] [(g ++ [[(far + (Ll.get l i 1))]])]))))))))
 (KK (.exit 2) [(.i .i64 n), (.i .i64 far), (.ls true 4 (Ll.len g))] [] [g]))))) := by kernel_rfl
theorem rjb_go (i : Int) (l : Ll) (n : Int) (far : Int) (g : Ll) (n_0 : Int) (far_0 : Int) (g_0 : Ll) (r1 : n_0 = (0 : Int)) (r2 : (0 : Int) ≤ far_0) (r3 : far_0 ≤ (20000000 : Int)) (r4 : (Ll.len g_0) ≤ (4000 : Int)) (T : Al (SV (stdA fsu true))) (M : Al (SO (stdA fsu true))) (KK : Ex → List (SV (stdA fsu true)) → List (SO (stdA fsu true)) → List Ll → Prop) (p1 : (1 : Int) ≤ (Ll.get l i 0)) (p2 : (Ll.get l i 0) ≤ (400 : Int)) (p3 : (100 : Int) ≤ (Ll.get l i 1)) (p4 : (Ll.get l i 1) ≤ (4000 : Int)) (p5 : (0 : Int) ≤ i) (p6 : i < (Ll.len l)) (hI : 0 ≤ n ∧ n ≤ (Ll.get l i 0) ∧ far = far_0 + (Ll.get l i 1) * n ∧ g = g_0 ++ jBlock far_0 (Ll.get l i 1) n.toNat) (hn : ∀ (n' : Int) (far' : Int) (g' : Ll), 0 ≤ n' ∧ n' ≤ (Ll.get l i 0) ∧ far' = far_0 + (Ll.get l i 1) * n' ∧ g' = g_0 ++ jBlock far_0 (Ll.get l i 1) n'.toNat → ((Ll.get l i 0) - n').toNat < ((Ll.get l i 0) - n).toNat → KK .normal [.i .i64 n', .i .i64 far', .ls true 4 (Ll.len g')] [] [g']) (hx1 : KK (.exit 2) [.i .i64 (Ll.get l i 0), .i .i64 (far_0 + (Ll.get l i 1) * (Ll.get l i 0)), .ls true 4 (Ll.len (g_0 ++ jBlock far_0 (Ll.get l i 1) (Ll.get l i 0).toNat))] [] [(g_0 ++ jBlock far_0 (Ll.get l i 1) (Ll.get l i 0).toNat)]) :
    sCode Try.prog (sCall Try.prog 30 (spOf sp0) noLoop 20) (noLoop 17) 30 (false :: [false, true, false, false, true, false, false, true, false, true, true, true, true]) (bodyAt Try.prog 17 [false, true, false, false, true, false, false, true, false, true, true, true, true]) (hdL (bodyAt Try.prog 17 [false, true, false, false, true, false, false, true, false, true, true, true, true]) T M 41 4 [(1, .p 1 0), (5, .i .i64 i)] [(0, .list 0 [.int .i64, .int .i64, .int .i64, .int .i64, .int .i64, .int .i64, .int .i64, .int .i64, .int .i64] false l), (1, .row 24 [.ls false 0 (Ll.len l)])] [(6, .i .i64 n), (4, .i .i64 far), (3, .ls true 4 (Ll.len g))] [] [(2, [.int .i64])] [g] []) (outL 4 (tsOf [6, 4, 3] []) [] [3] [(2, [.int .i64])] KK) := by
  refine Eq.mpr (rjb_eq i n far l g T M KK) ?_
  obtain ⟨i0, i1, rfl, rfl⟩ := hI
  by_cases h : n < (Ll.get l i 0)
  · rw [decide_eq_true h]
    have hm := mul_bd (show 0 ≤ (Ll.get l i 1) by omega) (show (Ll.get l i 1) ≤ 4000 by omega) i0 (show n ≤ 400 by omega)
    have e1 : far_0 + (Ll.get l i 1) * n + (Ll.get l i 1) = far_0 + (Ll.get l i 1) * (n + 1) := by grind
    have e2 : g_0 ++ jBlock far_0 (Ll.get l i 1) (n + 1).toNat = g_0 ++ jBlock far_0 (Ll.get l i 1) n.toNat ++ [[far_0 + (Ll.get l i 1) * (n + 1)]] := by
      rw [show (n + 1).toNat = n.toNat + 1 by omega, jBlock_succ, Int.toNat_of_nonneg i0, List.append_assoc, Int.mul_comm (Ll.get l i 1)]
    have e3 : Ll.len (g_0 ++ jBlock far_0 (Ll.get l i 1) n.toNat ++ [[far_0 + (Ll.get l i 1) * (n + 1)]]) ≤ 1000000 := by
      show ((List.length _ : Nat) : Int) ≤ 1000000
      simp only [List.length_append, jBlock_len, List.length_cons, List.length_nil]
      have hg0 : (g_0.length : Int) ≤ 4000 := r4
      omega
    have hn' := hn (n + 1) _ _ ⟨by omega, by omega, rfl, rfl⟩ (by omega)
    rw [e2] at hn'
    rw [e1]
    simp only [InK64]
    exact ⟨by omega, by omega, by omega, by omega, by omega, by omega, by omega, by trivial, e3, by omega, hn'⟩
  · rw [decide_eq_false h]
    obtain rfl : n = (Ll.get l i 0) := by omega
    first | exact hx1 | exact ⟨by omega, by omega, by omega, hx1⟩
abbrev rjbF {A : Go.Rx.Alg} : Code → Go.Rx.SS A → (Go.Rx.Ex → Go.Rx.SS A → A.R) → A.R := fun c_ s_ K_ => match s_.T.get 1, s_.T.get 5, s_.H.get 0, s_.H.get 1, s_.T.get 6, s_.T.get 4, s_.T.get 3, s_.H.get 3 with
  | some (.p 1 0), some (.i .i64 i), some (.list t1 k1 false l), some (.row t2 [.ls false 0 m3]), some (.i .i64 n), some (.i .i64 far), some (.ls true 3 m4), some (.list t5 k5 true g) => bif ((((((Nat.beq s_.N 41 && Nat.beq s_.nx 4) && Nat.beq t1 0) && decide (k1 = [.int .i64, .int .i64, .int .i64, .int .i64, .int .i64, .int .i64, .int .i64, .int .i64, .int .i64])) && Nat.beq t2 24) && Nat.beq t5 2) && decide (k5 = [.int .i64])) then (A.need .eql m3 (A.len l) (A.need .eql m4 (A.len g) (A.need .eql n (A.lit 0) (A.need .leq (A.lit 1) (A.app 9 [l] [i]) (A.need .leq (A.app 9 [l] [i]) (A.lit 400) (A.need .leq (A.lit 100) (A.app 10 [l] [i]) (A.need .leq (A.app 10 [l] [i]) (A.lit 4000) (A.need .leq (A.lit 0) far (A.need .leq far (A.lit 20000000) (A.need .leq (A.lit 0) i (A.need .lss i (A.len l) (A.need .leq (A.len g) (A.lit 4000) (K_ (.exit 2) (Go.Rx.hdL c_ s_.T (Go.Rx.kills [3] s_.H) 41 4 [(1, .p 1 0), (5, .i .i64 i)] [(0, .list 0 [.int .i64, .int .i64, .int .i64, .int .i64, .int .i64, .int .i64, .int .i64, .int .i64, .int .i64] false l), (1, .row 24 [.ls false 0 (A.len l)])] [(6, .i .i64 (A.app 9 [l] [i])), (4, .i .i64 (A.app 7 [] [far, (A.app 10 [l] [i]), (A.app 9 [l] [i])])), (3, .ls true 4 (A.len (A.appL 52 [g] [far, (A.app 10 [l] [i]), (A.app 9 [l] [i])])))] [] [(2, [.int .i64])] [(A.appL 52 [g] [far, (A.app 10 [l] [i]), (A.app 9 [l] [i])])] (Go.Rx.addW ([3] ++ []) s_.wr))))))))))))))) else A.fail "frame of rjb"
  | _, _, _, _, _, _, _, _ => A.fail "rjb"
theorem rjbF_ok {d : Nat} (hd : 100 ≤ d) : LoopOK (fs := fsu) (ov := true) Try.prog AW d 17 [false, true, false, false, true, false, false, true, false, true, true, true, true] rjbF := by
  intro m_ hm_ fn_ c0_ hfn_ hb_ c_ ro_ hc_ s_ K_ W_ ν_ S_ h_ hs_
  obtain rfl := body_of hfn_ hb_ hc_
  simp only [rjbF] at h_
  split at h_
  · rename_i i_0 t1 k1 l_0 t2 m3_0 n_0_0 far_0_0 m4_0 t5 k5 g_0_0 g0 g1 g2 g3 g4 g5 g6 g7
    obtain ⟨i, rfl⟩ : ∃ q : Int, q = i_0 := ⟨i_0, rfl⟩
    obtain ⟨l, rfl⟩ : ∃ q : Ll, q = l_0 := ⟨l_0, rfl⟩
    obtain ⟨m3, rfl⟩ : ∃ q : Int, q = m3_0 := ⟨m3_0, rfl⟩
    obtain ⟨n_0, rfl⟩ : ∃ q : Int, q = n_0_0 := ⟨n_0_0, rfl⟩
    obtain ⟨far_0, rfl⟩ : ∃ q : Int, q = far_0_0 := ⟨far_0_0, rfl⟩
    obtain ⟨m4, rfl⟩ : ∃ q : Int, q = m4_0 := ⟨m4_0, rfl⟩
    obtain ⟨g_0, rfl⟩ : ∃ q : Ll, q = g_0_0 := ⟨g_0_0, rfl⟩
    obtain ⟨T_, FN_, M_, snx_, wr_⟩ := s_
    have hN : ((((((Nat.beq FN_ 41 && Nat.beq snx_ 4) && Nat.beq t1 0) && decide (k1 = [.int .i64, .int .i64, .int .i64, .int .i64, .int .i64, .int .i64, .int .i64, .int .i64, .int .i64])) && Nat.beq t2 24) && Nat.beq t5 2) && decide (k5 = [.int .i64])) = true := by
      cases hq : (((((((Nat.beq FN_ 41 && Nat.beq snx_ 4) && Nat.beq t1 0) && decide (k1 = [.int .i64, .int .i64, .int .i64, .int .i64, .int .i64, .int .i64, .int .i64, .int .i64, .int .i64])) && Nat.beq t2 24) && Nat.beq t5 2) && decide (k5 = [.int .i64])) : Bool) with
      | true => rfl
      | false => (rw [hq] at h_; exact h_.elim)
    rw [hN, cond_true] at h_
    simp only [Bool.and_eq_true, beq_iff, decide_eq_true_eq] at hN
    obtain ⟨⟨⟨⟨⟨⟨rfl, rfl⟩, rfl⟩, rfl⟩, rfl⟩, rfl⟩, rfl⟩ := hN
    obtain ⟨q0, h_⟩ := h_
    obtain rfl : m3 = (Ll.len l) := q0
    obtain ⟨q0, h_⟩ := h_
    obtain rfl : m4 = (Ll.len g_0) := q0
    obtain ⟨q1, h_⟩ := h_
    have q1 : n_0 = (0 : Int) := q1
    obtain ⟨q2, h_⟩ := h_
    have q2 : (1 : Int) ≤ (Ll.get l i 0) := q2
    obtain ⟨q3, h_⟩ := h_
    have q3 : (Ll.get l i 0) ≤ (400 : Int) := q3
    obtain ⟨q4, h_⟩ := h_
    have q4 : (100 : Int) ≤ (Ll.get l i 1) := q4
    obtain ⟨q5, h_⟩ := h_
    have q5 : (Ll.get l i 1) ≤ (4000 : Int) := q5
    obtain ⟨q6, h_⟩ := h_
    have q6 : (0 : Int) ≤ far_0 := q6
    obtain ⟨q7, h_⟩ := h_
    have q7 : far_0 ≤ (20000000 : Int) := q7
    obtain ⟨q8, h_⟩ := h_
    have q8 : (0 : Int) ≤ i := q8
    obtain ⟨q9, h_⟩ := h_
    have q9 : i < (Ll.len l) := q9
    obtain ⟨q10, h_⟩ := h_
    have q10 : (Ll.len g_0) ≤ (4000 : Int) := q10
    replace h_ : K_ (.exit 2) (hdL (bodyAt Try.prog 17 [false, true, false, false, true, false, false, true, false, true, true, true, true]) T_ (kills [3] M_) 41 4 [(1, .p 1 0), (5, .i .i64 i)] [(0, .list 0 [.int .i64, .int .i64, .int .i64, .int .i64, .int .i64, .int .i64, .int .i64, .int .i64, .int .i64] false l), (1, .row 24 [.ls false 0 (Ll.len l)])] [(6, .i .i64 (Ll.get l i 0)), (4, .i .i64 (far_0 + (Ll.get l i 1) * (Ll.get l i 0))), (3, .ls true 4 (Ll.len (g_0 ++ jBlock far_0 (Ll.get l i 1) (Ll.get l i 0).toNat)))] [] [(2, [.int .i64])] [(g_0 ++ jBlock far_0 (Ll.get l i 1) (Ll.get l i 0).toNat)] (addW ([3] ++ []) wr_)) := h_
    have hx1 : K_ (.exit 2) (hdL (bodyAt Try.prog 17 [false, true, false, false, true, false, false, true, false, true, true, true, true]) T_ (kills [3] M_) 41 4 [(1, .p 1 0), (5, .i .i64 i)] [(0, .list 0 [.int .i64, .int .i64, .int .i64, .int .i64, .int .i64, .int .i64, .int .i64, .int .i64, .int .i64] false l), (1, .row 24 [.ls false 0 (Ll.len l)])] [(6, .i .i64 (Ll.get l i 0)), (4, .i .i64 (far_0 + (Ll.get l i 1) * (Ll.get l i 0))), (3, .ls true 4 (Ll.len (g_0 ++ jBlock far_0 (Ll.get l i 1) (Ll.get l i 0).toNat)))] [] [(2, [.int .i64])] [(g_0 ++ jBlock far_0 (Ll.get l i 1) (Ll.get l i 0).toNat)] (addW ([3] ++ []) wr_)) := by
      have h2 := h_
      exact h2
    refine loop_ruleL (fs := fsu) (ov := true) (s := ⟨T_, 41, M_, 4, wr_⟩) (X := Int × Int × Ll) (B := []) (mv := [3]) (kt := [(1, .p 1 0), (5, .i .i64 i)]) (kr := [(0, .list 0 [.int .i64, .int .i64, .int .i64, .int .i64, .int .i64, .int .i64, .int .i64, .int .i64, .int .i64] false l), (1, .row 24 [.ls false 0 (Ll.len l)])]) (ty := [(2, [.int .i64])]) (x := (n_0, far_0, g_0))
      (Inv := (fun x : Int × Int × Ll => match x with | (n, far, g) => 0 ≤ n ∧ n ≤ (Ll.get l i 0) ∧ far = far_0 + (Ll.get l i 1) * n ∧ g = g_0 ++ jBlock far_0 (Ll.get l i 1) n.toNat)) (μ := (fun x : Int × Int × Ll => match x with | (n, far, g) => ((Ll.get l i 0) - n).toNat)) (ts := tsOf [6, 4, 3] []) (sl := (fun x : Int × Int × Ll => match x with | (n, far, g) => [.i .i64 n, .i .i64 far, .ls true 4 (Ll.len g)])) (bl := (fun x : Int × Int × Ll => match x with | (n, far, g) => [])) (ll := (fun x : Int × Int × Ll => match x with | (n, far, g) => [g])) (Q := fun e_ vs_ os_ hs_ => K_ e_ (hdL (bodyAt Try.prog 17 [false, true, false, false, true, false, false, true, false, true, true, true, true]) T_ (kills [3] M_) 41 4 [(1, .p 1 0), (5, .i .i64 i)] [(0, .list 0 [.int .i64, .int .i64, .int .i64, .int .i64, .int .i64, .int .i64, .int .i64, .int .i64, .int .i64] false l), (1, .row 24 [.ls false 0 (Ll.len l)])] (((tsOf [6, 4, 3] []) e_).zip vs_) ([].zip os_) [(2, [.int .i64])] hs_ (addW ([3] ++ []) wr_)))
      (L := LL) (U := 30) (cs := sCall Try.prog 30 (spOf sp0) noLoop 20) (call := CN Try.prog AW m_) (lp := noLoop 17) (root := c0_) (p := [false, true, false, false, true, false, false, true, false, true, true, true, true])
      (show CallSOK _ _ from by
        have := sCall_ok (P := Try.prog) (d := m_ - 20) (U := 30) (lp := noLoop) (sp0_ok (fs := fsu) (ov := true) (d := m_ - 20)) (sp0_aw (fs := fsu) (ov := true)) (noLoop_ok) (by decide) 20
        rwa [show 20 + (m_ - 20) = m_ by omega] at this) (fun p f h => by cases h) (by decide) hc_
      (fun x o ho => by cases ho)
      (fun x hx => by cases hx) (fun x hx => by
        simp only [List.mem_cons, List.not_mem_nil, or_false] at hx
        rcases hx with rfl
        · exact ⟨_, g7, rfl⟩) (fun x hx => by cases hx)
      (fun x hx => by
        simp only [List.mem_cons, List.not_mem_nil, or_false] at hx
        rcases hx with rfl | rfl
        · exact g0
        · exact g1) (fun x hx => by
        simp only [List.mem_cons, List.not_mem_nil, or_false] at hx
        rcases hx with rfl | rfl
        · exact ⟨g2, by simp⟩
        · exact ⟨g3, by simp⟩) ?_ (fun _ _ _ _ _ h => h) ?_ ?_ ?_ hs_
    · rintro ⟨n, far, g⟩ hI
      exact rjb_go i l n far g n_0 far_0 g_0 q1 q6 q7 q10 T_ (kills [3] M_) _ q2 q3 q4 q5 q8 q9 hI (fun n' far' g' ha hb => ⟨(n', far', g'), ha, hb, rfl, rfl, rfl⟩) (⟨by simp [SO.mine], hx1⟩)
    · show 0 ≤ n_0 ∧ n_0 ≤ (Ll.get l i 0) ∧ far_0 = far_0 + (Ll.get l i 1) * n_0 ∧ g_0 = g_0 ++ jBlock far_0 (Ll.get l i 1) n_0.toNat
      exact ⟨by omega, by omega, by rw [q1]; omega, by rw [q1]; simp [jBlock]⟩
    · show ((Ll.get l i 0) - n_0).toNat < LL
      exact Nat.lt_of_le_of_lt (show _ ≤ 1000 by omega) (by decide)
    · exact ⟨⟨[.i .i64 n_0, .i .i64 far_0, .ls true 3 (Ll.len g_0)], [], [some 3], [some 3], by simp [gets, tsOf, g0, g1, g2, g3, g4, g5, g6, g7], by simp [gets, g0, g1, g2, g3, g4, g5, g6, g7], rfl, rfl, by simp [listsOf, g7] <;> rfl⟩⟩
  · exact h_.elim
abbrev jiF {A : Go.Rx.Alg} : Code → Go.Rx.SS A → (Go.Rx.Ex → Go.Rx.SS A → A.R) → A.R := fun c s K => bif Nat.beq s.nx 4 then jaF c s K else jbF c s K
theorem jiF_ok {d : Nat} (hd : 100 ≤ d) : LoopOK (fs := fsu) (ov := true) Try.prog AW d 16 [false, true, true, false, false, true, true, false, false, true, false, true, true, true, true] jiF := by
  intro m hm fn c0 h1 h2 c ro h3 s K W ν S h hs
  simp only [jiF] at h
  cases hb : Nat.beq s.nx 4
  · rw [hb] at h; exact jbF_ok hd m hm fn c0 h1 h2 c ro h3 s K W ν S h hs
  · rw [hb] at h; exact jaF_ok hd m hm fn c0 h1 h2 c ro h3 s K W ν S h hs
abbrev lpJi {A : Go.Rx.Alg} : Nat → Go.Rx.LoopS A := Go.Rx.lpOf [(16, [false, true, true, false, false, true, true, false, false, true, false, true, true, true, true], jiF)]
theorem lpJi_ok {d : Nat} (hd : 100 ≤ d) : LoopsAll (fs := fsu) (ov := true) Try.prog AW d lpJi := lpOf_ok fun x hx => by
  simp only [List.mem_cons, List.not_mem_nil, or_false] at hx
  rcases hx with rfl
  · exact jiF_ok (by omega)
abbrev rjiF {A : Go.Rx.Alg} : Code → Go.Rx.SS A → (Go.Rx.Ex → Go.Rx.SS A → A.R) → A.R := fun c s K => bif Nat.beq s.nx 3 then rjaF c s K else rjbF c s K
theorem rjiF_ok {d : Nat} (hd : 100 ≤ d) : LoopOK (fs := fsu) (ov := true) Try.prog AW d 17 [false, true, false, false, true, false, false, true, false, true, true, true, true] rjiF := by
  intro m hm fn c0 h1 h2 c ro h3 s K W ν S h hs
  simp only [rjiF] at h
  cases hb : Nat.beq s.nx 3
  · rw [hb] at h; exact rjbF_ok hd m hm fn c0 h1 h2 c ro h3 s K W ν S h hs
  · rw [hb] at h; exact rjaF_ok hd m hm fn c0 h1 h2 c ro h3 s K W ν S h hs
abbrev lpRji {A : Go.Rx.Alg} : Nat → Go.Rx.LoopS A := Go.Rx.lpOf [(17, [false, true, false, false, true, false, false, true, false, true, true, true, true], rjiF)]
theorem lpRji_ok {d : Nat} (hd : 100 ≤ d) : LoopsAll (fs := fsu) (ov := true) Try.prog AW d lpRji := lpOf_ok fun x hx => by
  simp only [List.mem_cons, List.not_mem_nil, or_false] at hx
  rcases hx with rfl
  · exact rjiF_ok (by omega)
theorem jo_eq (i far : Int) (l g : Ll) (T : Al (SV (stdA fsu true))) (M : Al (SO (stdA fsu true))) (KK : Ex → List (SV (stdA fsu true)) → List (SO (stdA fsu true)) → List Ll → Prop) : sCode Try.prog (sCall Try.prog 30 (spOf sp0) lpJi 20) (lpJi 16) 30 (false :: [false, true, false, true, true, true, true]) (bodyAt Try.prog 16 [false, true, false, true, true, true, true]) (hdL (bodyAt Try.prog 16 [false, true, false, true, true, true, true]) T M 34 3 [(13, .ls false 0 (Ll.len l)), (14, .i .i64 (Ll.len l))] [(0, .list 0 [.int .i64, .int .i64, .int .i64, .int .i64, .int .i64, .int .i64, .int .i64, .int .i64, .int .i64] false l)] [(15, .i .i64 i), (3, .i .i64 far), (4, .ls true 3 (Ll.len g))] [] [(2, [.int .i64])] [g] []) (outL 3 (tsOf [15, 3, 4] []) [] [2] [(2, [.int .i64])] KK) =
  (cond (decide (i < (Ll.len l)))
 ((0 : Int) ≤ i ∧ (i < (Ll.len l) ∧ (i < (Ll.len l) ∧ ((Ll.len g) = (Ll.len g) ∧ ((0 : Int) = (0 : Int) ∧ ((1 : Int) ≤ (Ll.get l i 0) ∧ ((Ll.get l i 0) ≤ (400 : Int) ∧ ((100 : Int) ≤ (Ll.get l i 1) ∧ ((Ll.get l i 1) ≤ (4000 : Int) ∧ ((0 : Int) ≤ far ∧ (far ≤ (20000000 : Int) ∧ ((Ll.len g) ≤ (4000 : Int) ∧ (InK .i64 (i + (1 : Int)) ∧ (KK .normal [(.i .i64 (i + (1 : Int))), (.i .i64 (far + (Ll.get l i 1) * (Ll.get l i 0))), (.ls true 3 (Ll.len (g ++ jBlock far (Ll.get l i 1) (Ll.get l i 0).toNat)))] [] [(g ++ jBlock far (Ll.get l i 1) (Ll.get l i 0).toNat)]))))))))))))))
 (KK (.exit 0) [(.i .i64 i), (.i .i64 far), (.ls true 3 (Ll.len g))] [] [g])) := by kernel_rfl
theorem jo_go (l : Ll) (i : Int) (far : Int) (g : Ll) (i_0 : Int) (far_0 : Int) (r1 : i_0 = (0 : Int)) (r2 : far_0 = (0 : Int)) (T : Al (SV (stdA fsu true))) (M : Al (SO (stdA fsu true))) (KK : Ex → List (SV (stdA fsu true)) → List (SO (stdA fsu true)) → List Ll → Prop) (p1 : (OkB l) = true) (p2 : (1 : Int) ≤ (Ll.len l)) (hI : 0 ≤ i ∧ i ≤ Ll.len l ∧ far = sumI (tubeLen l) i.toNat ∧ g = jT l i.toNat) (hn : ∀ (i' : Int) (far' : Int) (g' : Ll), 0 ≤ i' ∧ i' ≤ Ll.len l ∧ far' = sumI (tubeLen l) i'.toNat ∧ g' = jT l i'.toNat → (24 - i').toNat < (24 - i).toNat → KK .normal [.i .i64 i', .i .i64 far', .ls true 3 (Ll.len g')] [] [g']) (hx1 : KK (.exit 0) [.i .i64 (Ll.len l), .i .i64 (lenI l), .ls true 3 (Ll.len (jT l l.length))] [] [(jT l l.length)]) :
    sCode Try.prog (sCall Try.prog 30 (spOf sp0) lpJi 20) (lpJi 16) 30 (false :: [false, true, false, true, true, true, true]) (bodyAt Try.prog 16 [false, true, false, true, true, true, true]) (hdL (bodyAt Try.prog 16 [false, true, false, true, true, true, true]) T M 34 3 [(13, .ls false 0 (Ll.len l)), (14, .i .i64 (Ll.len l))] [(0, .list 0 [.int .i64, .int .i64, .int .i64, .int .i64, .int .i64, .int .i64, .int .i64, .int .i64, .int .i64] false l)] [(15, .i .i64 i), (3, .i .i64 far), (4, .ls true 3 (Ll.len g))] [] [(2, [.int .i64])] [g] []) (outL 3 (tsOf [15, 3, 4] []) [] [2] [(2, [.int .i64])] KK) := by
  refine Eq.mpr (jo_eq i far l g T M KK) ?_
  have hl : Ll.len l = (l.length : Int) := rfl
  have et : (Ll.len l).toNat = l.length := Int.toNat_natCast _
  obtain ⟨o1, o2⟩ := ok_of p1
  obtain ⟨i0, i1, rfl, rfl⟩ := hI
  by_cases h : i < Ll.len l
  · rw [decide_eq_true h]
    have ht := fbad_ok i0 (show i < fbad l by omega)
    have hq := sumI_bd (f := tubeLen l) (A := 0) (B := 1600000) i.toNat fun j a b => by have := len_bd (fbad_ok a (show j < fbad l by omega)); omega
    have hg := jT_len (l := l) i.toNat fun j a b => fbad_ok a (show j < fbad l by omega)
    have hg2 : Ll.len (jT l i.toNat) = ((jT l i.toNat).length : Int) := rfl
    obtain ⟨a1, a2, b1, b2, _⟩ := ht
    have e1 : sumI (tubeLen l) (i + 1).toNat = sumI (tubeLen l) i.toNat + Ll.get l i 1 * Ll.get l i 0 := by rw [sumI_succ _ i0]; unfold tubeLen; rw [Int.mul_comm]
    have hn' := hn (i + 1) _ _ ⟨by omega, by omega, rfl, rfl⟩ (by omega)
    rw [e1, jT_next i0] at hn'
    simp only [InK64]
    first
      | exact ⟨i0, h, h, by trivial, by trivial, a1, a2, b1, b2, by omega, by omega, by omega, by omega, hn'⟩
      | exact ⟨by trivial, by trivial, by trivial, a1, a2, b1, b2, by omega, by omega, i0, h, by omega, by omega, hn'⟩
  · rw [decide_eq_false h]
    obtain rfl : i = Ll.len l := by omega
    rw [et]
    exact hx1
theorem jo0_eq (i far : Int) (l : Ll) (T : Al (SV (stdA fsu true))) (M : Al (SO (stdA fsu true))) (KK : Ex → List (SV (stdA fsu true)) → List (SO (stdA fsu true)) → List Ll → Prop) : sCode Try.prog (sCall Try.prog 30 (spOf sp0) lpJi 20) (lpJi 16) 30 (false :: [false, true, false, true, true, true, true]) (bodyAt Try.prog 16 [false, true, false, true, true, true, true]) ⟨push [(13, .ls false 0 (Ll.len l)), (14, .i .i64 (Ll.len l)), (15, .i .i64 i), (3, .i .i64 far), (4, .sl 2 0 1 1)] T, 34, push [(0, .list 0 [.int .i64, .int .i64, .int .i64, .int .i64, .int .i64, .int .i64, .int .i64, .int .i64, .int .i64] false l), (2, .row 2 [.i .i64 (0 : Int)])] M, 3, []⟩ (outL 3 (tsOf [15, 3, 4] []) [] [2] [(2, [.int .i64])] KK) =
  (cond (decide (i < (Ll.len l)))
 ((0 : Int) ≤ i ∧ (i < (Ll.len l) ∧ (i < (Ll.len l) ∧ ((0 : Int) = (0 : Int) ∧ ((0 : Int) = (0 : Int) ∧ ((1 : Int) ≤ (Ll.get l i 0) ∧ ((Ll.get l i 0) ≤ (400 : Int) ∧ ((100 : Int) ≤ (Ll.get l i 1) ∧ ((Ll.get l i 1) ≤ (4000 : Int) ∧ ((0 : Int) ≤ far ∧ (far ≤ (20000000 : Int) ∧ (InK .i64 (i + (1 : Int)) ∧ (KK .normal [(.i .i64 (i + (1 : Int))), (.i .i64 (far + (Ll.get l i 1) * (Ll.get l i 0))), (.ls true 3 (Ll.len ([[0]] ++ jBlock far (Ll.get l i 1) (Ll.get l i 0).toNat)))] [] [([[0]] ++ jBlock far (Ll.get l i 1) (Ll.get l i 0).toNat)])))))))))))))
 False) := by kernel_rfl
theorem jo_go0 (l : Ll) (i_0 : Int) (far_0 : Int) (T : Al (SV (stdA fsu true))) (M : Al (SO (stdA fsu true))) (KK : Ex → List (SV (stdA fsu true)) → List (SO (stdA fsu true)) → List Ll → Prop) (p1 : i_0 = (0 : Int)) (p2 : far_0 = (0 : Int)) (p3 : (OkB l) = true) (p4 : (1 : Int) ≤ (Ll.len l)) (hn : ∀ (i' : Int) (far' : Int) (g' : Ll), 0 ≤ i' ∧ i' ≤ Ll.len l ∧ far' = sumI (tubeLen l) i'.toNat ∧ g' = jT l i'.toNat → (24 - i').toNat < 1000 → KK .normal [.i .i64 i', .i .i64 far', .ls true 3 (Ll.len g')] [] [g']) (hx1 : KK (.exit 0) [.i .i64 (Ll.len l), .i .i64 (lenI l), .ls true 3 (Ll.len (jT l l.length))] [] [(jT l l.length)]) :
    sCode Try.prog (sCall Try.prog 30 (spOf sp0) lpJi 20) (lpJi 16) 30 (false :: [false, true, false, true, true, true, true]) (bodyAt Try.prog 16 [false, true, false, true, true, true, true]) ⟨push [(13, .ls false 0 (Ll.len l)), (14, .i .i64 (Ll.len l)), (15, .i .i64 i_0), (3, .i .i64 far_0), (4, .sl 2 0 1 1)] T, 34, push [(0, .list 0 [.int .i64, .int .i64, .int .i64, .int .i64, .int .i64, .int .i64, .int .i64, .int .i64, .int .i64] false l), (2, .row 2 [.i .i64 (0 : Int)])] M, 3, []⟩ (outL 3 (tsOf [15, 3, 4] []) [] [2] [(2, [.int .i64])] KK) := by
  refine Eq.mpr (jo0_eq i_0 far_0 l T M KK) ?_
  have hl : Ll.len l = (l.length : Int) := rfl
  obtain ⟨o1, o2⟩ := ok_of p3
  obtain rfl : i_0 = 0 := p1
  obtain rfl : far_0 = 0 := p2
  have h : (0 : Int) < Ll.len l := by omega
  rw [decide_eq_true h]
  obtain ⟨a1, a2, b1, b2, _⟩ := fbad_ok (l := l) (Int.le_refl 0) (show (0 : Int) < fbad l by omega)
  have e1 : sumI (tubeLen l) ((0 : Int) + 1).toNat = 0 + Ll.get l 0 1 * Ll.get l 0 0 := by rw [sumI_succ _ (Int.le_refl 0)]; show (0 : Int) + tubeLen l 0 = _; unfold tubeLen; rw [Int.mul_comm]
  have e2 : jT l ((0 : Int) + 1).toNat = [[0]] ++ jBlock 0 (Ll.get l 0 1) (Ll.get l 0 0).toNat := by rw [jT_next (Int.le_refl 0)]; rfl
  have hn' := hn (0 + 1) _ _ ⟨by omega, by omega, rfl, rfl⟩ (by omega)
  rw [e1, e2] at hn'
  simp only [InK64]
  first
    | exact ⟨by omega, h, h, by trivial, by trivial, a1, a2, b1, b2, by omega, by omega, by omega, hn'⟩
    | exact ⟨by trivial, by trivial, by trivial, a1, a2, b1, b2, by omega, by omega, by omega, h, by omega, hn'⟩
abbrev joF {A : Go.Rx.Alg} : Code → Go.Rx.SS A → (Go.Rx.Ex → Go.Rx.SS A → A.R) → A.R := fun c_ s_ K_ => match s_.T.get 13, s_.T.get 14, s_.H.get 0, s_.T.get 15, s_.T.get 3, s_.T.get 4, s_.H.get 2 with
  | some (.ls false 0 m1), some (.i .i64 m2), some (.list t3 k3 false l), some (.i .i64 i), some (.i .i64 far), some (.sl 2 0 1 1), some (.row t4 [.i .i64 m5]) => bif ((((Nat.beq s_.N 34 && Nat.beq s_.nx 3) && Nat.beq t3 0) && decide (k3 = [.int .i64, .int .i64, .int .i64, .int .i64, .int .i64, .int .i64, .int .i64, .int .i64, .int .i64])) && Nat.beq t4 2) then (A.need .eql m1 (A.len l) (A.need .eql m2 (A.len l) (A.need .eql m5 (A.lit 0) (A.need .eql i (A.lit 0) (A.need .eql far (A.lit 0) (A.br (A.appB 32 [l] []) (fun _ => (A.need .leq (A.lit 1) (A.len l) (K_ (.exit 0) (Go.Rx.hdL c_ s_.T (Go.Rx.kills [2] s_.H) 34 3 [(13, .ls false 0 (A.len l)), (14, .i .i64 (A.len l))] [(0, .list 0 [.int .i64, .int .i64, .int .i64, .int .i64, .int .i64, .int .i64, .int .i64, .int .i64, .int .i64] false l)] [(15, .i .i64 (A.len l)), (3, .i .i64 (A.app 1 [l] [])), (4, .ls true 3 (A.len (A.appL 53 [l] [])))] [] [(2, [.int .i64])] [(A.appL 53 [l] [])] (Go.Rx.addW ([2] ++ []) s_.wr))))) (fun _ => A.fail "pre"))))))) else A.fail "frame of jo"
  | _, _, _, _, _, _, _ => A.fail "jo"
theorem joF_ok {d : Nat} (hd : 200 ≤ d) : LoopOK (fs := fsu) (ov := true) Try.prog AW d 16 [false, true, false, true, true, true, true] joF := by
  intro m_ hm_ fn_ c0_ hfn_ hb_ c_ ro_ hc_ s_ K_ W_ ν_ S_ h_ hs_
  obtain rfl := body_of hfn_ hb_ hc_
  simp only [joF] at h_
  split at h_
  · rename_i m1_0 m2_0 t3 k3 l_0 i_0_0 far_0_0 t4 m5_0 g0 g1 g2 g3 g4 g5 g6
    obtain ⟨m1, rfl⟩ : ∃ q : Int, q = m1_0 := ⟨m1_0, rfl⟩
    obtain ⟨m2, rfl⟩ : ∃ q : Int, q = m2_0 := ⟨m2_0, rfl⟩
    obtain ⟨l, rfl⟩ : ∃ q : Ll, q = l_0 := ⟨l_0, rfl⟩
    obtain ⟨i_0, rfl⟩ : ∃ q : Int, q = i_0_0 := ⟨i_0_0, rfl⟩
    obtain ⟨far_0, rfl⟩ : ∃ q : Int, q = far_0_0 := ⟨far_0_0, rfl⟩
    obtain ⟨m5, rfl⟩ : ∃ q : Int, q = m5_0 := ⟨m5_0, rfl⟩
    obtain ⟨T_, FN_, M_, snx_, wr_⟩ := s_
    have hN : ((((Nat.beq FN_ 34 && Nat.beq snx_ 3) && Nat.beq t3 0) && decide (k3 = [.int .i64, .int .i64, .int .i64, .int .i64, .int .i64, .int .i64, .int .i64, .int .i64, .int .i64])) && Nat.beq t4 2) = true := by
      cases hq : (((((Nat.beq FN_ 34 && Nat.beq snx_ 3) && Nat.beq t3 0) && decide (k3 = [.int .i64, .int .i64, .int .i64, .int .i64, .int .i64, .int .i64, .int .i64, .int .i64, .int .i64])) && Nat.beq t4 2) : Bool) with
      | true => rfl
      | false => (rw [hq] at h_; exact h_.elim)
    rw [hN, cond_true] at h_
    simp only [Bool.and_eq_true, beq_iff, decide_eq_true_eq] at hN
    obtain ⟨⟨⟨⟨rfl, rfl⟩, rfl⟩, rfl⟩, rfl⟩ := hN
    obtain ⟨q0, h_⟩ := h_
    obtain rfl : m1 = (Ll.len l) := q0
    obtain ⟨q0, h_⟩ := h_
    obtain rfl : m2 = (Ll.len l) := q0
    obtain ⟨q0, h_⟩ := h_
    obtain rfl : m5 = (0 : Int) := q0
    obtain ⟨q1, h_⟩ := h_
    have q1 : i_0 = (0 : Int) := q1
    obtain ⟨q2, h_⟩ := h_
    have q2 : far_0 = (0 : Int) := q2
    obtain ⟨q3, h_⟩ := br_pre (fs := fsu) (ov := true) h_
    have q3 : (OkB l) = true := q3
    obtain ⟨q4, h_⟩ := h_
    have q4 : (1 : Int) ≤ (Ll.len l) := q4
    replace h_ : K_ (.exit 0) (hdL (bodyAt Try.prog 16 [false, true, false, true, true, true, true]) T_ (kills [2] M_) 34 3 [(13, .ls false 0 (Ll.len l)), (14, .i .i64 (Ll.len l))] [(0, .list 0 [.int .i64, .int .i64, .int .i64, .int .i64, .int .i64, .int .i64, .int .i64, .int .i64, .int .i64] false l)] [(15, .i .i64 (Ll.len l)), (3, .i .i64 (lenI l)), (4, .ls true 3 (Ll.len (jT l l.length)))] [] [(2, [.int .i64])] [(jT l l.length)] (addW ([2] ++ []) wr_)) := h_
    have hx1 : K_ (.exit 0) (hdL (bodyAt Try.prog 16 [false, true, false, true, true, true, true]) T_ (kills [2] M_) 34 3 [(13, .ls false 0 (Ll.len l)), (14, .i .i64 (Ll.len l))] [(0, .list 0 [.int .i64, .int .i64, .int .i64, .int .i64, .int .i64, .int .i64, .int .i64, .int .i64, .int .i64] false l)] [(15, .i .i64 (Ll.len l)), (3, .i .i64 (lenI l)), (4, .ls true 3 (Ll.len (jT l l.length)))] [] [(2, [.int .i64])] [(jT l l.length)] (addW ([2] ++ []) wr_)) := by
      have h2 := h_
      exact h2
    refine loop_ruleF (fs := fsu) (ov := true) (s := ⟨T_, 34, M_, 3, wr_⟩) (X := Int × Int × Ll) (B := []) (mv := [2]) (kt := [(13, .ls false 0 (Ll.len l)), (14, .i .i64 (Ll.len l))]) (kr := [(0, .list 0 [.int .i64, .int .i64, .int .i64, .int .i64, .int .i64, .int .i64, .int .i64, .int .i64, .int .i64] false l)]) (kt0 := [(13, .ls false 0 (Ll.len l)), (14, .i .i64 (Ll.len l)), (15, .i .i64 i_0), (3, .i .i64 far_0), (4, .sl 2 0 1 1)]) (kr0 := [(0, .list 0 [.int .i64, .int .i64, .int .i64, .int .i64, .int .i64, .int .i64, .int .i64, .int .i64, .int .i64] false l), (2, .row 2 [.i .i64 (0 : Int)])]) (ty := [(2, [.int .i64])]) (m := 1000)
      (Inv := (fun x : Int × Int × Ll => match x with | (i, far, g) => 0 ≤ i ∧ i ≤ Ll.len l ∧ far = sumI (tubeLen l) i.toNat ∧ g = jT l i.toNat)) (μ := (fun x : Int × Int × Ll => match x with | (i, far, g) => (24 - i).toNat)) (ts := tsOf [15, 3, 4] []) (sl := (fun x : Int × Int × Ll => match x with | (i, far, g) => [.i .i64 i, .i .i64 far, .ls true 3 (Ll.len g)])) (bl := (fun x : Int × Int × Ll => match x with | (i, far, g) => [])) (ll := (fun x : Int × Int × Ll => match x with | (i, far, g) => [g])) (Q := fun e_ vs_ os_ hs_ => K_ e_ (hdL (bodyAt Try.prog 16 [false, true, false, true, true, true, true]) T_ (kills [2] M_) 34 3 [(13, .ls false 0 (Ll.len l)), (14, .i .i64 (Ll.len l))] [(0, .list 0 [.int .i64, .int .i64, .int .i64, .int .i64, .int .i64, .int .i64, .int .i64, .int .i64, .int .i64] false l)] (((tsOf [15, 3, 4] []) e_).zip vs_) ([].zip os_) [(2, [.int .i64])] hs_ (addW ([2] ++ []) wr_)))
      (L := LL) (U := 30) (cs := sCall Try.prog 30 (spOf sp0) lpJi 20) (call := CN Try.prog AW m_) (lp := lpJi 16) (root := c0_) (p := [false, true, false, true, true, true, true])
      (show CallSOK _ _ from by
        have := sCall_ok (P := Try.prog) (d := m_ - 20) (U := 30) (lp := lpJi) (sp0_ok (fs := fsu) (ov := true) (d := m_ - 20)) (sp0_aw (fs := fsu) (ov := true)) (lpJi_ok (by omega)) (by decide) 20
        rwa [show 20 + (m_ - 20) = m_ by omega] at this) (lpJi_ok (d := m_) (by omega) m_ (Nat.le_refl m_) 16 fn_ c0_ hfn_ hb_) (by decide) hc_
      (fun x o ho => by cases ho)
      (fun x hx => by cases hx) (fun x hx => by
        simp only [List.mem_cons, List.not_mem_nil, or_false] at hx
        rcases hx with rfl
        · exact ⟨_, g6, rfl⟩) (fun x hx => by cases hx)
      (fun x hx => by
        simp only [List.mem_cons, List.not_mem_nil, or_false] at hx
        rcases hx with rfl | rfl
        · exact g0
        · exact g1) (fun x hx => by
        simp only [List.mem_cons, List.not_mem_nil, or_false] at hx
        rcases hx with rfl
        · exact ⟨g2, by simp⟩) ?_ (fun _ _ _ _ _ h => h) (by decide) (fun x hx => by
        simp only [List.mem_cons, List.not_mem_nil, or_false] at hx
        rcases hx with rfl | rfl | rfl | rfl | rfl
        · exact g0
        · exact g1
        · exact g3
        · exact g4
        · exact g5) (fun x hx => by
        simp only [List.mem_cons, List.not_mem_nil, or_false] at hx
        rcases hx with rfl | rfl
        · exact g2
        · exact g6) ?_ hs_
    · rintro ⟨i, far, g⟩ hI
      exact jo_go l i far g i_0 far_0 q1 q2 T_ (kills [2] M_) _ q3 q4 hI (fun i' far' g' ha hb => ⟨(i', far', g'), ha, hb, rfl, rfl, rfl⟩) (⟨by simp [SO.mine], hx1⟩)
    · exact jo_go0 l i_0 far_0 T_ M_ _ q1 q2 q3 q4 (fun i' far' g' ha hb => ⟨(i', far', g'), ha, hb, rfl, rfl, rfl⟩) (⟨by simp [SO.mine], hx1⟩)
  · exact h_.elim
abbrev lpJo {A : Go.Rx.Alg} : Nat → Go.Rx.LoopS A := Go.Rx.lpOf [(16, [false, true, false, true, true, true, true], joF)]
theorem lpJo_ok {d : Nat} (hd : 200 ≤ d) : LoopsAll (fs := fsu) (ov := true) Try.prog AW d lpJo := lpOf_ok fun x hx => by
  simp only [List.mem_cons, List.not_mem_nil, or_false] at hx
  rcases hx with rfl
  · exact joF_ok (by omega)
theorem rjo_eq (i far : Int) (l g : Ll) (T : Al (SV (stdA fsu true))) (M : Al (SO (stdA fsu true))) (KK : Ex → List (SV (stdA fsu true)) → List (SO (stdA fsu true)) → List Ll → Prop) : sCode Try.prog (sCall Try.prog 30 (spOf sp0) lpRji 20) (lpRji 17) 30 (false :: [false, true, false, true, true, true, true]) (bodyAt Try.prog 17 [false, true, false, true, true, true, true]) (hdL (bodyAt Try.prog 17 [false, true, false, true, true, true, true]) T M 41 3 [(1, .p 1 0)] [(0, .list 0 [.int .i64, .int .i64, .int .i64, .int .i64, .int .i64, .int .i64, .int .i64, .int .i64, .int .i64] false l), (1, .row 24 [.ls false 0 (Ll.len l)])] [(5, .i .i64 i), (4, .i .i64 far), (3, .ls true 3 (Ll.len g))] [] [(2, [.int .i64])] [g] []) (outL 3 (tsOf [5, 4, 3] []) [] [2] [(2, [.int .i64])] KK) =
  (cond (decide (i < (Ll.len l)))
 ((Ll.len l) = (Ll.len l) ∧ ((Ll.len g) = (Ll.len g) ∧ ((0 : Int) = (0 : Int) ∧ ((1 : Int) ≤ (Ll.get l i 0) ∧ ((Ll.get l i 0) ≤ (400 : Int) ∧ ((100 : Int) ≤ (Ll.get l i 1) ∧ ((Ll.get l i 1) ≤ (4000 : Int) ∧ ((0 : Int) ≤ far ∧ (far ≤ (20000000 : Int) ∧ ((0 : Int) ≤ i ∧ (i < (Ll.len l) ∧ ((Ll.len g) ≤ (4000 : Int) ∧ (InK .i64 (i + (1 : Int)) ∧ (KK .normal [(.i .i64 (i + (1 : Int))), (.i .i64 (far + (Ll.get l i 1) * (Ll.get l i 0))), (.ls true 3 (Ll.len (g ++ jBlock far (Ll.get l i 1) (Ll.get l i 0).toNat)))] [] [(g ++ jBlock far (Ll.get l i 1) (Ll.get l i 0).toNat)]))))))))))))))
 (KK (.exit 0) [(.i .i64 i), (.i .i64 far), (.ls true 3 (Ll.len g))] [] [g])) := by kernel_rfl
theorem rjo_go (l : Ll) (i : Int) (far : Int) (g : Ll) (i_0 : Int) (far_0 : Int) (r1 : i_0 = (0 : Int)) (r2 : far_0 = (0 : Int)) (T : Al (SV (stdA fsu true))) (M : Al (SO (stdA fsu true))) (KK : Ex → List (SV (stdA fsu true)) → List (SO (stdA fsu true)) → List Ll → Prop) (p1 : (OkB l) = true) (p2 : (1 : Int) ≤ (Ll.len l)) (hI : 0 ≤ i ∧ i ≤ Ll.len l ∧ far = sumI (tubeLen l) i.toNat ∧ g = jT l i.toNat) (hn : ∀ (i' : Int) (far' : Int) (g' : Ll), 0 ≤ i' ∧ i' ≤ Ll.len l ∧ far' = sumI (tubeLen l) i'.toNat ∧ g' = jT l i'.toNat → (24 - i').toNat < (24 - i).toNat → KK .normal [.i .i64 i', .i .i64 far', .ls true 3 (Ll.len g')] [] [g']) (hx1 : KK (.exit 0) [.i .i64 (Ll.len l), .i .i64 (lenI l), .ls true 3 (Ll.len (jT l l.length))] [] [(jT l l.length)]) :
    sCode Try.prog (sCall Try.prog 30 (spOf sp0) lpRji 20) (lpRji 17) 30 (false :: [false, true, false, true, true, true, true]) (bodyAt Try.prog 17 [false, true, false, true, true, true, true]) (hdL (bodyAt Try.prog 17 [false, true, false, true, true, true, true]) T M 41 3 [(1, .p 1 0)] [(0, .list 0 [.int .i64, .int .i64, .int .i64, .int .i64, .int .i64, .int .i64, .int .i64, .int .i64, .int .i64] false l), (1, .row 24 [.ls false 0 (Ll.len l)])] [(5, .i .i64 i), (4, .i .i64 far), (3, .ls true 3 (Ll.len g))] [] [(2, [.int .i64])] [g] []) (outL 3 (tsOf [5, 4, 3] []) [] [2] [(2, [.int .i64])] KK) := by
  refine Eq.mpr (rjo_eq i far l g T M KK) ?_
  have hl : Ll.len l = (l.length : Int) := rfl
  have et : (Ll.len l).toNat = l.length := Int.toNat_natCast _
  obtain ⟨o1, o2⟩ := ok_of p1
  obtain ⟨i0, i1, rfl, rfl⟩ := hI
  by_cases h : i < Ll.len l
  · rw [decide_eq_true h]
    have ht := fbad_ok i0 (show i < fbad l by omega)
    have hq := sumI_bd (f := tubeLen l) (A := 0) (B := 1600000) i.toNat fun j a b => by have := len_bd (fbad_ok a (show j < fbad l by omega)); omega
    have hg := jT_len (l := l) i.toNat fun j a b => fbad_ok a (show j < fbad l by omega)
    have hg2 : Ll.len (jT l i.toNat) = ((jT l i.toNat).length : Int) := rfl
    obtain ⟨a1, a2, b1, b2, _⟩ := ht
    have e1 : sumI (tubeLen l) (i + 1).toNat = sumI (tubeLen l) i.toNat + Ll.get l i 1 * Ll.get l i 0 := by rw [sumI_succ _ i0]; unfold tubeLen; rw [Int.mul_comm]
    have hn' := hn (i + 1) _ _ ⟨by omega, by omega, rfl, rfl⟩ (by omega)
    rw [e1, jT_next i0] at hn'
    simp only [InK64]
    first
      | exact ⟨i0, h, h, by trivial, by trivial, a1, a2, b1, b2, by omega, by omega, by omega, by omega, hn'⟩
      | exact ⟨by trivial, by trivial, by trivial, a1, a2, b1, b2, by omega, by omega, i0, h, by omega, by omega, hn'⟩
  · rw [decide_eq_false h]
    obtain rfl : i = Ll.len l := by omega
    rw [et]
    exact hx1
theorem rjo0_eq (i far : Int) (l : Ll) (T : Al (SV (stdA fsu true))) (M : Al (SO (stdA fsu true))) (KK : Ex → List (SV (stdA fsu true)) → List (SO (stdA fsu true)) → List Ll → Prop) : sCode Try.prog (sCall Try.prog 30 (spOf sp0) lpRji 20) (lpRji 17) 30 (false :: [false, true, false, true, true, true, true]) (bodyAt Try.prog 17 [false, true, false, true, true, true, true]) ⟨push [(1, .p 1 0), (5, .i .i64 i), (4, .i .i64 far), (3, .sl 2 0 1 1)] T, 41, push [(0, .list 0 [.int .i64, .int .i64, .int .i64, .int .i64, .int .i64, .int .i64, .int .i64, .int .i64, .int .i64] false l), (1, .row 24 [.ls false 0 (Ll.len l)]), (2, .row 2 [.i .i64 (0 : Int)])] M, 3, []⟩ (outL 3 (tsOf [5, 4, 3] []) [] [2] [(2, [.int .i64])] KK) =
  (cond (decide (i < (Ll.len l)))
 ((Ll.len l) = (Ll.len l) ∧ ((0 : Int) = (0 : Int) ∧ ((0 : Int) = (0 : Int) ∧ ((1 : Int) ≤ (Ll.get l i 0) ∧ ((Ll.get l i 0) ≤ (400 : Int) ∧ ((100 : Int) ≤ (Ll.get l i 1) ∧ ((Ll.get l i 1) ≤ (4000 : Int) ∧ ((0 : Int) ≤ far ∧ (far ≤ (20000000 : Int) ∧ ((0 : Int) ≤ i ∧ (i < (Ll.len l) ∧ (InK .i64 (i + (1 : Int)) ∧ (KK .normal [(.i .i64 (i + (1 : Int))), (.i .i64 (far + (Ll.get l i 1) * (Ll.get l i 0))), (.ls true 3 (Ll.len ([[0]] ++ jBlock far (Ll.get l i 1) (Ll.get l i 0).toNat)))] [] [([[0]] ++ jBlock far (Ll.get l i 1) (Ll.get l i 0).toNat)])))))))))))))
 False) := by kernel_rfl
theorem rjo_go0 (l : Ll) (i_0 : Int) (far_0 : Int) (T : Al (SV (stdA fsu true))) (M : Al (SO (stdA fsu true))) (KK : Ex → List (SV (stdA fsu true)) → List (SO (stdA fsu true)) → List Ll → Prop) (p1 : i_0 = (0 : Int)) (p2 : far_0 = (0 : Int)) (p3 : (OkB l) = true) (p4 : (1 : Int) ≤ (Ll.len l)) (hn : ∀ (i' : Int) (far' : Int) (g' : Ll), 0 ≤ i' ∧ i' ≤ Ll.len l ∧ far' = sumI (tubeLen l) i'.toNat ∧ g' = jT l i'.toNat → (24 - i').toNat < 1000 → KK .normal [.i .i64 i', .i .i64 far', .ls true 3 (Ll.len g')] [] [g']) (hx1 : KK (.exit 0) [.i .i64 (Ll.len l), .i .i64 (lenI l), .ls true 3 (Ll.len (jT l l.length))] [] [(jT l l.length)]) :
    sCode Try.prog (sCall Try.prog 30 (spOf sp0) lpRji 20) (lpRji 17) 30 (false :: [false, true, false, true, true, true, true]) (bodyAt Try.prog 17 [false, true, false, true, true, true, true]) ⟨push [(1, .p 1 0), (5, .i .i64 i_0), (4, .i .i64 far_0), (3, .sl 2 0 1 1)] T, 41, push [(0, .list 0 [.int .i64, .int .i64, .int .i64, .int .i64, .int .i64, .int .i64, .int .i64, .int .i64, .int .i64] false l), (1, .row 24 [.ls false 0 (Ll.len l)]), (2, .row 2 [.i .i64 (0 : Int)])] M, 3, []⟩ (outL 3 (tsOf [5, 4, 3] []) [] [2] [(2, [.int .i64])] KK) := by
  refine Eq.mpr (rjo0_eq i_0 far_0 l T M KK) ?_
  have hl : Ll.len l = (l.length : Int) := rfl
  obtain ⟨o1, o2⟩ := ok_of p3
  obtain rfl : i_0 = 0 := p1
  obtain rfl : far_0 = 0 := p2
  have h : (0 : Int) < Ll.len l := by omega
  rw [decide_eq_true h]
  obtain ⟨a1, a2, b1, b2, _⟩ := fbad_ok (l := l) (Int.le_refl 0) (show (0 : Int) < fbad l by omega)
  have e1 : sumI (tubeLen l) ((0 : Int) + 1).toNat = 0 + Ll.get l 0 1 * Ll.get l 0 0 := by rw [sumI_succ _ (Int.le_refl 0)]; show (0 : Int) + tubeLen l 0 = _; unfold tubeLen; rw [Int.mul_comm]
  have e2 : jT l ((0 : Int) + 1).toNat = [[0]] ++ jBlock 0 (Ll.get l 0 1) (Ll.get l 0 0).toNat := by rw [jT_next (Int.le_refl 0)]; rfl
  have hn' := hn (0 + 1) _ _ ⟨by omega, by omega, rfl, rfl⟩ (by omega)
  rw [e1, e2] at hn'
  simp only [InK64]
  first
    | exact ⟨by omega, h, h, by trivial, by trivial, a1, a2, b1, b2, by omega, by omega, by omega, hn'⟩
    | exact ⟨by trivial, by trivial, by trivial, a1, a2, b1, b2, by omega, by omega, by omega, h, by omega, hn'⟩
abbrev rjoF {A : Go.Rx.Alg} : Code → Go.Rx.SS A → (Go.Rx.Ex → Go.Rx.SS A → A.R) → A.R := fun c_ s_ K_ => match s_.T.get 1, s_.H.get 0, s_.H.get 1, s_.T.get 5, s_.T.get 4, s_.T.get 3, s_.H.get 2 with
  | some (.p 1 0), some (.list t1 k1 false l), some (.row t2 [.ls false 0 m3]), some (.i .i64 i), some (.i .i64 far), some (.sl 2 0 1 1), some (.row t4 [.i .i64 m5]) => bif (((((Nat.beq s_.N 41 && Nat.beq s_.nx 3) && Nat.beq t1 0) && decide (k1 = [.int .i64, .int .i64, .int .i64, .int .i64, .int .i64, .int .i64, .int .i64, .int .i64, .int .i64])) && Nat.beq t2 24) && Nat.beq t4 2) then (A.need .eql m3 (A.len l) (A.need .eql m5 (A.lit 0) (A.need .eql i (A.lit 0) (A.need .eql far (A.lit 0) (A.br (A.appB 32 [l] []) (fun _ => (A.need .leq (A.lit 1) (A.len l) (K_ (.exit 0) (Go.Rx.hdL c_ s_.T (Go.Rx.kills [2] s_.H) 41 3 [(1, .p 1 0)] [(0, .list 0 [.int .i64, .int .i64, .int .i64, .int .i64, .int .i64, .int .i64, .int .i64, .int .i64, .int .i64] false l), (1, .row 24 [.ls false 0 (A.len l)])] [(5, .i .i64 (A.len l)), (4, .i .i64 (A.app 1 [l] [])), (3, .ls true 3 (A.len (A.appL 53 [l] [])))] [] [(2, [.int .i64])] [(A.appL 53 [l] [])] (Go.Rx.addW ([2] ++ []) s_.wr))))) (fun _ => A.fail "pre")))))) else A.fail "frame of rjo"
  | _, _, _, _, _, _, _ => A.fail "rjo"
theorem rjoF_ok {d : Nat} (hd : 200 ≤ d) : LoopOK (fs := fsu) (ov := true) Try.prog AW d 17 [false, true, false, true, true, true, true] rjoF := by
  intro m_ hm_ fn_ c0_ hfn_ hb_ c_ ro_ hc_ s_ K_ W_ ν_ S_ h_ hs_
  obtain rfl := body_of hfn_ hb_ hc_
  simp only [rjoF] at h_
  split at h_
  · rename_i t1 k1 l_0 t2 m3_0 i_0_0 far_0_0 t4 m5_0 g0 g1 g2 g3 g4 g5 g6
    obtain ⟨l, rfl⟩ : ∃ q : Ll, q = l_0 := ⟨l_0, rfl⟩
    obtain ⟨m3, rfl⟩ : ∃ q : Int, q = m3_0 := ⟨m3_0, rfl⟩
    obtain ⟨i_0, rfl⟩ : ∃ q : Int, q = i_0_0 := ⟨i_0_0, rfl⟩
    obtain ⟨far_0, rfl⟩ : ∃ q : Int, q = far_0_0 := ⟨far_0_0, rfl⟩
    obtain ⟨m5, rfl⟩ : ∃ q : Int, q = m5_0 := ⟨m5_0, rfl⟩
    obtain ⟨T_, FN_, M_, snx_, wr_⟩ := s_
    have hN : (((((Nat.beq FN_ 41 && Nat.beq snx_ 3) && Nat.beq t1 0) && decide (k1 = [.int .i64, .int .i64, .int .i64, .int .i64, .int .i64, .int .i64, .int .i64, .int .i64, .int .i64])) && Nat.beq t2 24) && Nat.beq t4 2) = true := by
      cases hq : ((((((Nat.beq FN_ 41 && Nat.beq snx_ 3) && Nat.beq t1 0) && decide (k1 = [.int .i64, .int .i64, .int .i64, .int .i64, .int .i64, .int .i64, .int .i64, .int .i64, .int .i64])) && Nat.beq t2 24) && Nat.beq t4 2) : Bool) with
      | true => rfl
      | false => (rw [hq] at h_; exact h_.elim)
    rw [hN, cond_true] at h_
    simp only [Bool.and_eq_true, beq_iff, decide_eq_true_eq] at hN
    obtain ⟨⟨⟨⟨⟨rfl, rfl⟩, rfl⟩, rfl⟩, rfl⟩, rfl⟩ := hN
    obtain ⟨q0, h_⟩ := h_
    obtain rfl : m3 = (Ll.len l) := q0
    obtain ⟨q0, h_⟩ := h_
    obtain rfl : m5 = (0 : Int) := q0
    obtain ⟨q1, h_⟩ := h_
    have q1 : i_0 = (0 : Int) := q1
    obtain ⟨q2, h_⟩ := h_
    have q2 : far_0 = (0 : Int) := q2
    obtain ⟨q3, h_⟩ := br_pre (fs := fsu) (ov := true) h_
    have q3 : (OkB l) = true := q3
    obtain ⟨q4, h_⟩ := h_
    have q4 : (1 : Int) ≤ (Ll.len l) := q4
    replace h_ : K_ (.exit 0) (hdL (bodyAt Try.prog 17 [false, true, false, true, true, true, true]) T_ (kills [2] M_) 41 3 [(1, .p 1 0)] [(0, .list 0 [.int .i64, .int .i64, .int .i64, .int .i64, .int .i64, .int .i64, .int .i64, .int .i64, .int .i64] false l), (1, .row 24 [.ls false 0 (Ll.len l)])] [(5, .i .i64 (Ll.len l)), (4, .i .i64 (lenI l)), (3, .ls true 3 (Ll.len (jT l l.length)))] [] [(2, [.int .i64])] [(jT l l.length)] (addW ([2] ++ []) wr_)) := h_
    have hx1 : K_ (.exit 0) (hdL (bodyAt Try.prog 17 [false, true, false, true, true, true, true]) T_ (kills [2] M_) 41 3 [(1, .p 1 0)] [(0, .list 0 [.int .i64, .int .i64, .int .i64, .int .i64, .int .i64, .int .i64, .int .i64, .int .i64, .int .i64] false l), (1, .row 24 [.ls false 0 (Ll.len l)])] [(5, .i .i64 (Ll.len l)), (4, .i .i64 (lenI l)), (3, .ls true 3 (Ll.len (jT l l.length)))] [] [(2, [.int .i64])] [(jT l l.length)] (addW ([2] ++ []) wr_)) := by
      have h2 := h_
      exact h2
    refine loop_ruleF (fs := fsu) (ov := true) (s := ⟨T_, 41, M_, 3, wr_⟩) (X := Int × Int × Ll) (B := []) (mv := [2]) (kt := [(1, .p 1 0)]) (kr := [(0, .list 0 [.int .i64, .int .i64, .int .i64, .int .i64, .int .i64, .int .i64, .int .i64, .int .i64, .int .i64] false l), (1, .row 24 [.ls false 0 (Ll.len l)])]) (kt0 := [(1, .p 1 0), (5, .i .i64 i_0), (4, .i .i64 far_0), (3, .sl 2 0 1 1)]) (kr0 := [(0, .list 0 [.int .i64, .int .i64, .int .i64, .int .i64, .int .i64, .int .i64, .int .i64, .int .i64, .int .i64] false l), (1, .row 24 [.ls false 0 (Ll.len l)]), (2, .row 2 [.i .i64 (0 : Int)])]) (ty := [(2, [.int .i64])]) (m := 1000)
      (Inv := (fun x : Int × Int × Ll => match x with | (i, far, g) => 0 ≤ i ∧ i ≤ Ll.len l ∧ far = sumI (tubeLen l) i.toNat ∧ g = jT l i.toNat)) (μ := (fun x : Int × Int × Ll => match x with | (i, far, g) => (24 - i).toNat)) (ts := tsOf [5, 4, 3] []) (sl := (fun x : Int × Int × Ll => match x with | (i, far, g) => [.i .i64 i, .i .i64 far, .ls true 3 (Ll.len g)])) (bl := (fun x : Int × Int × Ll => match x with | (i, far, g) => [])) (ll := (fun x : Int × Int × Ll => match x with | (i, far, g) => [g])) (Q := fun e_ vs_ os_ hs_ => K_ e_ (hdL (bodyAt Try.prog 17 [false, true, false, true, true, true, true]) T_ (kills [2] M_) 41 3 [(1, .p 1 0)] [(0, .list 0 [.int .i64, .int .i64, .int .i64, .int .i64, .int .i64, .int .i64, .int .i64, .int .i64, .int .i64] false l), (1, .row 24 [.ls false 0 (Ll.len l)])] (((tsOf [5, 4, 3] []) e_).zip vs_) ([].zip os_) [(2, [.int .i64])] hs_ (addW ([2] ++ []) wr_)))
      (L := LL) (U := 30) (cs := sCall Try.prog 30 (spOf sp0) lpRji 20) (call := CN Try.prog AW m_) (lp := lpRji 17) (root := c0_) (p := [false, true, false, true, true, true, true])
      (show CallSOK _ _ from by
        have := sCall_ok (P := Try.prog) (d := m_ - 20) (U := 30) (lp := lpRji) (sp0_ok (fs := fsu) (ov := true) (d := m_ - 20)) (sp0_aw (fs := fsu) (ov := true)) (lpRji_ok (by omega)) (by decide) 20
        rwa [show 20 + (m_ - 20) = m_ by omega] at this) (lpRji_ok (d := m_) (by omega) m_ (Nat.le_refl m_) 17 fn_ c0_ hfn_ hb_) (by decide) hc_
      (fun x o ho => by cases ho)
      (fun x hx => by cases hx) (fun x hx => by
        simp only [List.mem_cons, List.not_mem_nil, or_false] at hx
        rcases hx with rfl
        · exact ⟨_, g6, rfl⟩) (fun x hx => by cases hx)
      (fun x hx => by
        simp only [List.mem_cons, List.not_mem_nil, or_false] at hx
        rcases hx with rfl
        · exact g0) (fun x hx => by
        simp only [List.mem_cons, List.not_mem_nil, or_false] at hx
        rcases hx with rfl | rfl
        · exact ⟨g1, by simp⟩
        · exact ⟨g2, by simp⟩) ?_ (fun _ _ _ _ _ h => h) (by decide) (fun x hx => by
        simp only [List.mem_cons, List.not_mem_nil, or_false] at hx
        rcases hx with rfl | rfl | rfl | rfl
        · exact g0
        · exact g3
        · exact g4
        · exact g5) (fun x hx => by
        simp only [List.mem_cons, List.not_mem_nil, or_false] at hx
        rcases hx with rfl | rfl | rfl
        · exact g1
        · exact g2
        · exact g6) ?_ hs_
    · rintro ⟨i, far, g⟩ hI
      exact rjo_go l i far g i_0 far_0 q1 q2 T_ (kills [2] M_) _ q3 q4 hI (fun i' far' g' ha hb => ⟨(i', far', g'), ha, hb, rfl, rfl, rfl⟩) (⟨by simp [SO.mine], hx1⟩)
    · exact rjo_go0 l i_0 far_0 T_ M_ _ q1 q2 q3 q4 (fun i' far' g' ha hb => ⟨(i', far', g'), ha, hb, rfl, rfl, rfl⟩) (⟨by simp [SO.mine], hx1⟩)
  · exact h_.elim
abbrev lpRjo {A : Go.Rx.Alg} : Nat → Go.Rx.LoopS A := Go.Rx.lpOf [(17, [false, true, false, true, true, true, true], rjoF)]
theorem lpRjo_ok {d : Nat} (hd : 200 ≤ d) : LoopsAll (fs := fsu) (ov := true) Try.prog AW d lpRjo := lpOf_ok fun x hx => by
  simp only [List.mem_cons, List.not_mem_nil, or_false] at hx
  rcases hx with rfl
  · exact rjoF_ok (by omega)
theorem joints_eq (l : Ll) (KK : KS (stdA fsu true)) : sFunc Try.prog 30 (sCall Try.prog 30 (spOf spW) lpJo 20) lpJo 16 [.agg [.ls false 0 (Ll.len l)]] (lsMem 0 [([.int .i64, .int .i64, .int .i64, .int .i64, .int .i64, .int .i64, .int .i64, .int .i64, .int .i64], l)]) 1 KK =
  ((Ll.len l) = (Ll.len l) ∧ (cond (decide ((chkI l) ≠ (0 : Int)))
 (KK .nils (lsMem 0 [([.int .i64, .int .i64, .int .i64, .int .i64, .int .i64, .int .i64, .int .i64, .int .i64, .int .i64], l)]) 1 [])
 ((Ll.len l) = (Ll.len l) ∧ ((Ll.len l) = (Ll.len l) ∧ ((0 : Int) = (0 : Int) ∧ ((0 : Int) = (0 : Int) ∧ ((0 : Int) = (0 : Int) ∧ (cond (OkB l)
 ((1 : Int) ≤ (Ll.len l) ∧ ((Ll.len (jT l l.length)) = (Ll.len (jT l l.length)) ∧ (KK (.ls true 1 (Ll.len (jT l l.length))) (Al.set (lsMem 0 [([.int .i64, .int .i64, .int .i64, .int .i64, .int .i64, .int .i64, .int .i64, .int .i64, .int .i64], l)]) 1 (some (.list 2 [.int .i64] true (jT l l.length)))) 2 [])))
 False)))))))) := by kernel_rfl
theorem joints_gives {m : Nat} (hm : 500 ≤ m) {H : Hp} {nx : Nat} {v_l : LV} {l : Ll} (hl_l : IsL H nx [.int .i64, .int .i64, .int .i64, .int .i64, .int .i64, .int .i64, .int .i64, .int .i64, .int .i64] l v_l) : Gives Try.prog AW m 16 [.agg [v_l]] H nx false 2 [.int .i64] (jointsL l) := by
  obtain ⟨ν, n1, n2, n3, n4⟩ := ls_in (fs := fsu) (ov := true) (l := [([.int .i64, .int .i64, .int .i64, .int .i64, .int .i64, .int .i64, .int .i64, .int .i64, .int .i64], l)]) (lvs := [v_l]) 0 (fun i x lv e1 e2 => by
    cases i with
    | zero => simp at e1 e2; subst e1 e2; exact hl_l
    | succ i =>
      simp at e1) rfl
  refine gives_of (n := 20) (d := m - 21) (U := 30) (fs := fsu) (ov := true) (spW_ok (by omega)) spW_aw (lpJo_ok (by omega)) (by decide) (by decide) (by omega) (args := [.agg [.ls false 0 (Ll.len l)]]) (M := lsMem 0 [([.int .i64, .int .i64, .int .i64, .int .i64, .int .i64, .int .i64, .int .i64, .int .i64, .int .i64], l)]) (snx := 1) ?_ ?_ (VSL.cons ⟨_, rfl, (VSL.cons (n4 0 _ _ rfl rfl) rfl)⟩ rfl) (hs_in n2 n3)
  rw [joints_eq]
  · have c0 : jointsL l = if chkI l = 0 then jT l l.length else [] := rfl
    simp only [cond_iff]
    refine ⟨by trivial, fun h => end_nil (w := false) (by rw [c0, if_neg h]), fun h => ?_⟩
    have h : chkI l = 0 := by omega
    obtain ⟨k1, k2, _⟩ := chk_ok h
    have hl : Ll.len l = (l.length : Int) := rfl
    have e := end_l (fs := fsu) (ov := true) (n := 1) (w := false) (e := 2) (ks := [.int .i64]) (M := lsMem 0 [([.int .i64, .int .i64, .int .i64, .int .i64, .int .i64, .int .i64, .int .i64, .int .i64, .int .i64], l)]) (show jT l l.length = jointsL l by rw [c0, if_pos h])
    rw [k1]
    repeat' (first | exact e | apply And.intro)
    all_goals first | trivial | omega | exact e
  · exact jointsL_rows
abbrev jointsS {A : Go.Rx.Alg} : List (Go.Rx.SV A) → Go.Rx.SH A → Nat → Go.Rx.KS A → A.R := fun args_ M_ snx_ K_ => match args_ with
  | [.agg [x_l]] => (match Go.Rx.lsArg M_ [.int .i64, .int .i64, .int .i64, .int .i64, .int .i64, .int .i64, .int .i64, .int .i64, .int .i64] x_l with | some (l, n_l) => (A.need .eql n_l (A.len l) ((M_.set snx_ (some (.list 2 [.int .i64] true (A.appL 54 [l] [])))).force fun M_ => K_ (.ls true snx_ (A.len (A.appL 54 [l] []))) M_ (snx_ + 1) [])) | none => A.fail "joints")
  | _ => A.fail "joints"
theorem jointsS_ok {ov : Bool} {d : Nat} (hd : 500 ≤ d) : SpecOK (fs := fsu) (ov := ov) Try.prog AW d 16 jointsS := by
  intro m_ hm_ args_ M_ snx_ K_ h_ ν_ largs_ H_ nx_ ha_ hM_
  unfold jointsS at h_
  split at h_
  · rename_i x_l
    obtain ⟨y1, r1, rfl, ⟨l1, rfl, ⟨v_l, r2, rfl, hx_l, rfl⟩⟩, rfl⟩ := ha_
    split at h_
    · rename_i l n_l q_l
      obtain ⟨e_l, h_⟩ := h_
      exact gives_got (joints_gives (by omega) (lsArg_ok hM_ hx_l q_l e_l)) hM_ h_
    · exact h_.elim
  · exact h_.elim
theorem rjoints_eq (l : Ll) (KK : KS (stdA fsu true)) : sFunc Try.prog 30 (sCall Try.prog 30 (spOf spW) lpRjo 20) lpRjo 17 [.agg [.ls false 0 (Ll.len l)]] (lsMem 0 [([.int .i64, .int .i64, .int .i64, .int .i64, .int .i64, .int .i64, .int .i64, .int .i64, .int .i64], l)]) 1 KK =
  ((Ll.len l) = (Ll.len l) ∧ (cond (decide ((chkI l) ≠ (0 : Int)))
 (KK .nils (lsMem 0 [([.int .i64, .int .i64, .int .i64, .int .i64, .int .i64, .int .i64, .int .i64, .int .i64, .int .i64], l)]) 1 [])
 ((Ll.len l) = (Ll.len l) ∧ ((0 : Int) = (0 : Int) ∧ ((0 : Int) = (0 : Int) ∧ ((0 : Int) = (0 : Int) ∧ (cond (OkB l)
 ((1 : Int) ≤ (Ll.len l) ∧ ((Ll.len (jT l l.length)) = (Ll.len (jT l l.length)) ∧ (KK (.ls true 1 (Ll.len (jT l l.length))) (Al.set (lsMem 0 [([.int .i64, .int .i64, .int .i64, .int .i64, .int .i64, .int .i64, .int .i64, .int .i64, .int .i64], l)]) 1 (some (.list 2 [.int .i64] true (jT l l.length)))) 2 [])))
 False))))))) := by kernel_rfl
theorem rjoints_gives {m : Nat} (hm : 500 ≤ m) {H : Hp} {nx : Nat} {v_l : LV} {l : Ll} (hl_l : IsL H nx [.int .i64, .int .i64, .int .i64, .int .i64, .int .i64, .int .i64, .int .i64, .int .i64, .int .i64] l v_l) : Gives Try.prog AW m 17 [.agg [v_l]] H nx false 2 [.int .i64] (jointsL l) := by
  obtain ⟨ν, n1, n2, n3, n4⟩ := ls_in (fs := fsu) (ov := true) (l := [([.int .i64, .int .i64, .int .i64, .int .i64, .int .i64, .int .i64, .int .i64, .int .i64, .int .i64], l)]) (lvs := [v_l]) 0 (fun i x lv e1 e2 => by
    cases i with
    | zero => simp at e1 e2; subst e1 e2; exact hl_l
    | succ i =>
      simp at e1) rfl
  refine gives_of (n := 20) (d := m - 21) (U := 30) (fs := fsu) (ov := true) (spW_ok (by omega)) spW_aw (lpRjo_ok (by omega)) (by decide) (by decide) (by omega) (args := [.agg [.ls false 0 (Ll.len l)]]) (M := lsMem 0 [([.int .i64, .int .i64, .int .i64, .int .i64, .int .i64, .int .i64, .int .i64, .int .i64, .int .i64], l)]) (snx := 1) ?_ ?_ (VSL.cons ⟨_, rfl, (VSL.cons (n4 0 _ _ rfl rfl) rfl)⟩ rfl) (hs_in n2 n3)
  rw [rjoints_eq]
  · have c0 : jointsL l = if chkI l = 0 then jT l l.length else [] := rfl
    simp only [cond_iff]
    refine ⟨by trivial, fun h => end_nil (w := false) (by rw [c0, if_neg h]), fun h => ?_⟩
    have h : chkI l = 0 := by omega
    obtain ⟨k1, k2, _⟩ := chk_ok h
    have hl : Ll.len l = (l.length : Int) := rfl
    have e := end_l (fs := fsu) (ov := true) (n := 1) (w := false) (e := 2) (ks := [.int .i64]) (M := lsMem 0 [([.int .i64, .int .i64, .int .i64, .int .i64, .int .i64, .int .i64, .int .i64, .int .i64, .int .i64], l)]) (show jT l l.length = jointsL l by rw [c0, if_pos h])
    rw [k1]
    repeat' (first | exact e | apply And.intro)
    all_goals first | trivial | omega | exact e
  · exact jointsL_rows
abbrev rjointsS {A : Go.Rx.Alg} : List (Go.Rx.SV A) → Go.Rx.SH A → Nat → Go.Rx.KS A → A.R := fun args_ M_ snx_ K_ => match args_ with
  | [.agg [x_l]] => (match Go.Rx.lsArg M_ [.int .i64, .int .i64, .int .i64, .int .i64, .int .i64, .int .i64, .int .i64, .int .i64, .int .i64] x_l with | some (l, n_l) => (A.need .eql n_l (A.len l) ((M_.set snx_ (some (.list 2 [.int .i64] true (A.appL 54 [l] [])))).force fun M_ => K_ (.ls true snx_ (A.len (A.appL 54 [l] []))) M_ (snx_ + 1) [])) | none => A.fail "rjoints")
  | _ => A.fail "rjoints"
theorem rjointsS_ok {ov : Bool} {d : Nat} (hd : 500 ≤ d) : SpecOK (fs := fsu) (ov := ov) Try.prog AW d 17 rjointsS := by
  intro m_ hm_ args_ M_ snx_ K_ h_ ν_ largs_ H_ nx_ ha_ hM_
  unfold rjointsS at h_
  split at h_
  · rename_i x_l
    obtain ⟨y1, r1, rfl, ⟨l1, rfl, ⟨v_l, r2, rfl, hx_l, rfl⟩⟩, rfl⟩ := ha_
    split at h_
    · rename_i l n_l q_l
      obtain ⟨e_l, h_⟩ := h_
      exact gives_got (rjoints_gives (by omega) (lsArg_ok hM_ hx_l q_l e_l)) hM_ h_
    · exact h_.elim
  · exact h_.elim
end Go.Proofs.Ytibinojifhfbmaa
