/-
  Layer 2: values at places, one line above another.
-/
import Derived.Test.YtjemcdjigeijbaaVb
set_option linter.unusedSimpArgs false
set_option linter.unusedVariables false
set_option maxRecDepth 100000
namespace Go.Proofs.Ytjemcdjigeijbaa
open Go Go.Rx

abbrev spV {A : Go.Rx.Alg} : Go.Rx.SpL A := [(AW, Go.Rx.awakeS), (24, rightS), (25, valueAtS)]
theorem spV_ok {ov : Bool} {d : Nat} (hd : 300 ≤ d) : SpOK (fs := fsv) (ov := ov) Try.prog AW d spV := SpOK.cons awake_ok (SpOK.cons (rightS_ok (by omega)) (SpOK.cons (valueAtS_ok (by omega)) SpOK.nil))
theorem spV_aw {fs : Fs} {ov : Bool} : (spOf (A := stdA fs ov) spV AW).isSome = true := rfl
abbrev spRV {A : Go.Rx.Alg} : Go.Rx.SpL A := [(AW, Go.Rx.awakeS), (26, rrightS), (27, rvalueS)]
theorem spRV_ok {ov : Bool} {d : Nat} (hd : 300 ≤ d) : SpOK (fs := fsv) (ov := ov) Try.prog AW d spRV := SpOK.cons awake_ok (SpOK.cons (rrightS_ok (by omega)) (SpOK.cons (rvalueS_ok (by omega)) SpOK.nil))
theorem spRV_aw {fs : Fs} {ov : Bool} : (spOf (A := stdA fs ov) spRV AW).isSome = true := rfl
theorem at_eq (x : Int) (l : Ll) (KK : KS (stdA fsv true)) : sFunc Try.prog 30 (sCall Try.prog 30 (spOf spV) noLoop 20) noLoop 9 [.agg [.ls false 0 (Ll.len l)], .i .i64 x] (lsMem 0 [([.int .i64, .int .i64], l)]) 1 KK =
  ((Ll.len l) = (Ll.len l) ∧ (cond (!(rightB l))
 (KK (.agg [(.i .i64 (0 : Int)), (.i .i64 (0 : Int))]) (lsMem 0 [([.int .i64, .int .i64], l)]) 1 [])
 ((Ll.len l) = (Ll.len l) ∧ (cond (rightB l)
 (KK (.agg [(.i .i64 (valLo l x)), (.i .i64 (valHi l x))]) (lsMem 0 [([.int .i64, .int .i64], l)]) 1 [])
 False)))) := by kernel_rfl
theorem at_pure {m : Nat} (hm : 400 ≤ m) {H : Hp} {nx : Nat} (x : Int) {v_l : LV} {l : Ll} (hl_l : IsL H nx [.int .i64, .int .i64] l v_l) : Pure Try.prog AW m 9 [.agg [v_l], .i .i64 x] H nx (.agg [.i .i64 (if rightB l = true then valLo l x else 0), .i .i64 (if rightB l = true then valHi l x else 0)]) := by
  obtain ⟨ν, n1, n2, n3, n4⟩ := ls_in (fs := fsv) (ov := true) (l := [([.int .i64, .int .i64], l)]) (lvs := [v_l]) 0 (fun i x lv e1 e2 => by
    cases i with
    | zero => simp at e1 e2; subst e1 e2; exact hl_l
    | succ i =>
      simp at e1) rfl
  refine pure_of (n := 20) (d := m - 21) (U := 30) (fs := fsv) (ov := true) (spV_ok (by omega)) spV_aw noLoop_ok (by decide) (by decide) (by omega) (args := [.agg [.ls false 0 (Ll.len l)], .i .i64 x]) (M := lsMem 0 [([.int .i64, .int .i64], l)]) (snx := 1) ?_ (VSL.cons ⟨_, rfl, (VSL.cons (n4 0 _ _ rfl rfl) rfl)⟩ (VSL.cons rfl rfl)) (hs_in n2 n3)
  rw [at_eq]
  cases hb : rightB l
  · exact ⟨by trivial, end_ii (by simp) (by simp)⟩
  · simp only [cond_true, Bool.not_true, cond_false]
    repeat' (first | exact end_ii (by simp) (by simp) | apply And.intro)
    all_goals first | trivial | omega
abbrev atS {A : Go.Rx.Alg} : List (Go.Rx.SV A) → Go.Rx.SH A → Nat → Go.Rx.KS A → A.R := fun args_ M_ snx_ K_ => match args_ with
  | [.agg [x_l], .i .i64 x] => (match Go.Rx.lsArg M_ [.int .i64, .int .i64] x_l with | some (l, n_l) => (A.need .eql n_l (A.len l) (K_ (.agg [.i .i64 (A.app 13 [l] [x]), .i .i64 (A.app 14 [l] [x])]) M_ snx_ [])) | none => A.fail "at")
  | _ => A.fail "at"
theorem atS_ok {ov : Bool} {d : Nat} (hd : 400 ≤ d) : SpecOK (fs := fsv) (ov := ov) Try.prog AW d 9 atS := by
  intro m_ hm_ args_ M_ snx_ K_ h_ ν_ largs_ H_ nx_ ha_ hM_
  unfold atS at h_
  split at h_
  · rename_i x_l x
    obtain ⟨y1, r1, rfl, ⟨l1, rfl, ⟨v_l, r2, rfl, hx_l, rfl⟩⟩, ⟨y3, r3, rfl, rfl, rfl⟩⟩ := ha_
    split at h_
    · rename_i l n_l q_l
      obtain ⟨e_l, h_⟩ := h_
      exact pure_got (at_pure (by omega) x (lsArg_ok hM_ hx_l q_l e_l)) hM_ (v := .agg [.i .i64 _, .i .i64 _]) ⟨_, rfl, (VSL.cons rfl (VSL.cons rfl rfl))⟩ h_
    · exact h_.elim
  · exact h_.elim
theorem rat_eq (x : Int) (l : Ll) (KK : KS (stdA fsv true)) : sFunc Try.prog 30 (sCall Try.prog 30 (spOf spRV) noLoop 20) noLoop 10 [.agg [.ls false 0 (Ll.len l)], .i .i64 x] (lsMem 0 [([.int .i64, .int .i64], l)]) 1 KK =
  ((Ll.len l) = (Ll.len l) ∧ (cond (!(rightB l))
 (KK (.agg [(.i .i64 (0 : Int)), (.i .i64 (0 : Int))]) (lsMem 0 [([.int .i64, .int .i64], l)]) 1 [])
 ((Ll.len l) = (Ll.len l) ∧ (cond (rightB l)
 (KK (.agg [(.i .i64 (valLo l x)), (.i .i64 (valHi l x))]) (lsMem 0 [([.int .i64, .int .i64], l)]) 1 [])
 False)))) := by kernel_rfl
theorem rat_pure {m : Nat} (hm : 400 ≤ m) {H : Hp} {nx : Nat} (x : Int) {v_l : LV} {l : Ll} (hl_l : IsL H nx [.int .i64, .int .i64] l v_l) : Pure Try.prog AW m 10 [.agg [v_l], .i .i64 x] H nx (.agg [.i .i64 (if rightB l = true then valLo l x else 0), .i .i64 (if rightB l = true then valHi l x else 0)]) := by
  obtain ⟨ν, n1, n2, n3, n4⟩ := ls_in (fs := fsv) (ov := true) (l := [([.int .i64, .int .i64], l)]) (lvs := [v_l]) 0 (fun i x lv e1 e2 => by
    cases i with
    | zero => simp at e1 e2; subst e1 e2; exact hl_l
    | succ i =>
      simp at e1) rfl
  refine pure_of (n := 20) (d := m - 21) (U := 30) (fs := fsv) (ov := true) (spRV_ok (by omega)) spRV_aw noLoop_ok (by decide) (by decide) (by omega) (args := [.agg [.ls false 0 (Ll.len l)], .i .i64 x]) (M := lsMem 0 [([.int .i64, .int .i64], l)]) (snx := 1) ?_ (VSL.cons ⟨_, rfl, (VSL.cons (n4 0 _ _ rfl rfl) rfl)⟩ (VSL.cons rfl rfl)) (hs_in n2 n3)
  rw [rat_eq]
  cases hb : rightB l
  · exact ⟨by trivial, end_ii (by simp) (by simp)⟩
  · simp only [cond_true, Bool.not_true, cond_false]
    repeat' (first | exact end_ii (by simp) (by simp) | apply And.intro)
    all_goals first | trivial | omega
abbrev ratS {A : Go.Rx.Alg} : List (Go.Rx.SV A) → Go.Rx.SH A → Nat → Go.Rx.KS A → A.R := fun args_ M_ snx_ K_ => match args_ with
  | [.agg [x_l], .i .i64 x] => (match Go.Rx.lsArg M_ [.int .i64, .int .i64] x_l with | some (l, n_l) => (A.need .eql n_l (A.len l) (K_ (.agg [.i .i64 (A.app 13 [l] [x]), .i .i64 (A.app 14 [l] [x])]) M_ snx_ [])) | none => A.fail "rat")
  | _ => A.fail "rat"
theorem ratS_ok {ov : Bool} {d : Nat} (hd : 400 ≤ d) : SpecOK (fs := fsv) (ov := ov) Try.prog AW d 10 ratS := by
  intro m_ hm_ args_ M_ snx_ K_ h_ ν_ largs_ H_ nx_ ha_ hM_
  unfold ratS at h_
  split at h_
  · rename_i x_l x
    obtain ⟨y1, r1, rfl, ⟨l1, rfl, ⟨v_l, r2, rfl, hx_l, rfl⟩⟩, ⟨y3, r3, rfl, rfl, rfl⟩⟩ := ha_
    split at h_
    · rename_i l n_l q_l
      obtain ⟨e_l, h_⟩ := h_
      exact pure_got (rat_pure (by omega) x (lsArg_ok hM_ hx_l q_l e_l)) hM_ (v := .agg [.i .i64 _, .i .i64 _]) ⟨_, rfl, (VSL.cons rfl (VSL.cons rfl rfl))⟩ h_
    · exact h_.elim
  · exact h_.elim
theorem aba_eq (f t i : Int) (a b : Ll) (T : Al (SV (stdA fsv true))) (M : Al (SO (stdA fsv true))) (KK : Ex → List (SV (stdA fsv true)) → List (SO (stdA fsv true)) → List Ll → Prop) : sCode Try.prog (sCall Try.prog 30 (spOf spV) noLoop 20) (noLoop 32) 30 (false :: [false, true, false, true]) (bodyAt Try.prog 32 [false, true, false, true]) (hdL (bodyAt Try.prog 32 [false, true, false, true]) T M 69 4 [(14, .ls false 0 (Ll.len a)), (15, .i .i64 (Ll.len a)), (2, .i .i64 f), (3, .i .i64 t), (4, .p 2 0), (5, .p 3 0)] [(0, .list 0 [.int .i64, .int .i64] false a), (1, .list 0 [.int .i64, .int .i64] false b), (2, .row 24 [.ls false 0 (Ll.len a)]), (3, .row 24 [.ls false 1 (Ll.len b)])] [(16, .i .i64 i)] [] [] [] []) (outL 4 (tsOf [16] [8]) [] [] [] KK) =
  (cond (decide (i < (Ll.len a)))
 ((0 : Int) ≤ i ∧ (i < (Ll.len a) ∧ (i < (Ll.len a) ∧ (cond (decide (f ≤ (Ll.get a i 0)))
 (cond (decide ((Ll.get a i 0) ≤ t))
 ((Ll.len b) = (Ll.len b) ∧ (cond (rightB b)
 (cond (decide ((Ll.get a i 1) < (valHi b (Ll.get a i 0))))
 (KK .ret [(.b false)] [] [])
 (InK .i64 (i + (1 : Int)) ∧ (KK .normal [(.i .i64 (i + (1 : Int)))] [] [])))
 False))
 (InK .i64 (i + (1 : Int)) ∧ (KK .normal [(.i .i64 (i + (1 : Int)))] [] [])))
 (InK .i64 (i + (1 : Int)) ∧ (KK .normal [(.i .i64 (i + (1 : Int)))] [] []))))))
 (KK (.exit 0) [(.i .i64 i)] [] [])) := by kernel_rfl
theorem aba_go (f : Int) (t : Int) (a : Ll) (b : Ll) (i : Int) (i_0 : Int) (r1 : i_0 = (0 : Int)) (T : Al (SV (stdA fsv true))) (M : Al (SO (stdA fsv true))) (KK : Ex → List (SV (stdA fsv true)) → List (SO (stdA fsv true)) → List Ll → Prop) (p1 : (rightB a) = true) (p2 : (rightB b) = true) (hI : 0 ≤ i ∧ i ≤ upI a b f t) (hn : ∀ (i' : Int), 0 ≤ i' ∧ i' ≤ upI a b f t → (24 - i').toNat < (24 - i).toNat → KK .normal [.i .i64 i'] [] []) (hx1 : (decide (upI a b f t < a.length)) = true → KK .ret [.b false] [] []) (hx2 : (decide (upI a b f t < a.length)) = false → KK (.exit 0) [.i .i64 (Ll.len a)] [] []) :
    sCode Try.prog (sCall Try.prog 30 (spOf spV) noLoop 20) (noLoop 32) 30 (false :: [false, true, false, true]) (bodyAt Try.prog 32 [false, true, false, true]) (hdL (bodyAt Try.prog 32 [false, true, false, true]) T M 69 4 [(14, .ls false 0 (Ll.len a)), (15, .i .i64 (Ll.len a)), (2, .i .i64 f), (3, .i .i64 t), (4, .p 2 0), (5, .p 3 0)] [(0, .list 0 [.int .i64, .int .i64] false a), (1, .list 0 [.int .i64, .int .i64] false b), (2, .row 24 [.ls false 0 (Ll.len a)]), (3, .row 24 [.ls false 1 (Ll.len b)])] [(16, .i .i64 i)] [] [] [] []) (outL 4 (tsOf [16] [8]) [] [] [] KK) := by
  refine Eq.mpr (aba_eq f t i a b T M KK) ?_
  have hl : Ll.len a = (a.length : Int) := rfl
  have hR := right_of p1
  have hS := right_of p2
  have hlen := hR.len
  have hlen2 := hS.len
  obtain ⟨i0, i1⟩ := hI
  obtain ⟨_, a2, _, _⟩ := leastN_spec (aup a b f t) a.length 0
  have a3 : upI a b f t ≤ a.length := by unfold upI; omega
  by_cases h : i < Ll.len a
  · have hs := leastN_step (p := aup a b f t) (k := a.length) i0 i1 (by omega)
    have hg := hR.any (j := i) (by omega) (by omega)
    have stop : (f ≤ Ll.get a i 0 ∧ Ll.get a i 0 ≤ t) ∧ Ll.get a i 1 < valHi b (Ll.get a i 0) → KK .ret [.b false] [] [] := fun hb => hx1 (decide_eq_true (by have := hs.1 (decide_eq_true (by exact hb)); unfold upI; omega))
    have next : ¬ ((f ≤ Ll.get a i 0 ∧ Ll.get a i 0 ≤ t) ∧ Ll.get a i 1 < valHi b (Ll.get a i 0)) → KK .normal [.i .i64 (i + 1)] [] [] := fun hb => hn (i + 1) ⟨by omega, hs.2 (decide_eq_false (by exact hb))⟩ (by omega)
    clear hs hn hx1 hx2 a2 a3
    rw [decide_eq_true h, p2]
    generalize valHi b (Ll.get a i 0) = c2 at *
    generalize Ll.get a i 0 = c0 at *
    generalize Ll.get a i 1 = c1 at *
    simp only [cond_iff, InK64]
    repeat' (first | apply And.intro | intro _)
    all_goals first | trivial | omega | exact stop (by omega) | exact next (by omega) | (exfalso; simp_all; done)
  · rw [decide_eq_false h]
    obtain rfl : i = Ll.len a := by omega
    exact hx2 (decide_eq_false (by omega))
abbrev abaF {A : Go.Rx.Alg} : Code → Go.Rx.SS A → (Go.Rx.Ex → Go.Rx.SS A → A.R) → A.R := fun c_ s_ K_ => match s_.T.get 14, s_.T.get 15, s_.T.get 2, s_.T.get 3, s_.T.get 4, s_.T.get 5, s_.H.get 0, s_.H.get 1, s_.H.get 2, s_.H.get 3, s_.T.get 16 with
  | some (.ls false 0 m1), some (.i .i64 m2), some (.i .i64 f), some (.i .i64 t), some (.p 2 0), some (.p 3 0), some (.list t3 k3 false a), some (.list t4 k4 false b), some (.row t5 [.ls false 0 m6]), some (.row t7 [.ls false 1 m8]), some (.i .i64 i) => bif (((((((Nat.beq s_.N 69 && Nat.beq s_.nx 4) && Nat.beq t3 0) && decide (k3 = [.int .i64, .int .i64])) && Nat.beq t4 0) && decide (k4 = [.int .i64, .int .i64])) && Nat.beq t5 24) && Nat.beq t7 24) then (A.need .eql m1 (A.len a) (A.need .eql m2 (A.len a) (A.need .eql m6 (A.len a) (A.need .eql m8 (A.len b) (A.need .eql i (A.lit 0) (A.br (A.appB 32 [a] []) (fun _ => (A.br (A.appB 32 [b] []) (fun _ => ((A.br (A.appB 35 [a, b] [f, t]) (fun _ => K_ .ret (Go.Rx.hdL c_ s_.T (Go.Rx.kills [] s_.H) 69 4 [(14, .ls false 0 (A.len a)), (15, .i .i64 (A.len a)), (2, .i .i64 f), (3, .i .i64 t), (4, .p 2 0), (5, .p 3 0)] [(0, .list 0 [.int .i64, .int .i64] false a), (1, .list 0 [.int .i64, .int .i64] false b), (2, .row 24 [.ls false 0 (A.len a)]), (3, .row 24 [.ls false 1 (A.len b)])] [(8, .b (A.ofB false))] [] [] [] (Go.Rx.addW ([] ++ []) s_.wr))) (fun _ => K_ (.exit 0) (Go.Rx.hdL c_ s_.T (Go.Rx.kills [] s_.H) 69 4 [(14, .ls false 0 (A.len a)), (15, .i .i64 (A.len a)), (2, .i .i64 f), (3, .i .i64 t), (4, .p 2 0), (5, .p 3 0)] [(0, .list 0 [.int .i64, .int .i64] false a), (1, .list 0 [.int .i64, .int .i64] false b), (2, .row 24 [.ls false 0 (A.len a)]), (3, .row 24 [.ls false 1 (A.len b)])] [(16, .i .i64 (A.len a))] [] [] [] (Go.Rx.addW ([] ++ []) s_.wr)))))) (fun _ => A.fail "pre"))) (fun _ => A.fail "pre"))))))) else A.fail "frame of aba"
  | _, _, _, _, _, _, _, _, _, _, _ => A.fail "aba"
theorem abaF_ok {d : Nat} (hd : 400 ≤ d) : LoopOK (fs := fsv) (ov := true) Try.prog AW d 32 [false, true, false, true] abaF := by
  intro m_ hm_ fn_ c0_ hfn_ hb_ c_ ro_ hc_ s_ K_ W_ ν_ S_ h_ hs_
  obtain rfl := body_of hfn_ hb_ hc_
  unfold abaF at h_
  split at h_
  · rename_i m1_0 m2_0 f_0 t_0 t3 k3 a_0 t4 k4 b_0 t5 m6_0 t7 m8_0 i_0_0 g0 g1 g2 g3 g4 g5 g6 g7 g8 g9 g10
    obtain ⟨m1, rfl⟩ : ∃ q : Int, q = m1_0 := ⟨m1_0, rfl⟩
    obtain ⟨m2, rfl⟩ : ∃ q : Int, q = m2_0 := ⟨m2_0, rfl⟩
    obtain ⟨f, rfl⟩ : ∃ q : Int, q = f_0 := ⟨f_0, rfl⟩
    obtain ⟨t, rfl⟩ : ∃ q : Int, q = t_0 := ⟨t_0, rfl⟩
    obtain ⟨a, rfl⟩ : ∃ q : Ll, q = a_0 := ⟨a_0, rfl⟩
    obtain ⟨b, rfl⟩ : ∃ q : Ll, q = b_0 := ⟨b_0, rfl⟩
    obtain ⟨m6, rfl⟩ : ∃ q : Int, q = m6_0 := ⟨m6_0, rfl⟩
    obtain ⟨m8, rfl⟩ : ∃ q : Int, q = m8_0 := ⟨m8_0, rfl⟩
    obtain ⟨i_0, rfl⟩ : ∃ q : Int, q = i_0_0 := ⟨i_0_0, rfl⟩
    obtain ⟨T_, FN_, M_, snx_, wr_⟩ := s_
    have hN : (((((((Nat.beq FN_ 69 && Nat.beq snx_ 4) && Nat.beq t3 0) && decide (k3 = [.int .i64, .int .i64])) && Nat.beq t4 0) && decide (k4 = [.int .i64, .int .i64])) && Nat.beq t5 24) && Nat.beq t7 24) = true := by
      cases hq : ((((((((Nat.beq FN_ 69 && Nat.beq snx_ 4) && Nat.beq t3 0) && decide (k3 = [.int .i64, .int .i64])) && Nat.beq t4 0) && decide (k4 = [.int .i64, .int .i64])) && Nat.beq t5 24) && Nat.beq t7 24) : Bool) with
      | true => rfl
      | false => (rw [hq] at h_; exact h_.elim)
    rw [hN, cond_true] at h_
    simp only [Bool.and_eq_true, beq_iff, decide_eq_true_eq] at hN
    obtain ⟨⟨⟨⟨⟨⟨⟨rfl, rfl⟩, rfl⟩, rfl⟩, rfl⟩, rfl⟩, rfl⟩, rfl⟩ := hN
    obtain ⟨q0, h_⟩ := h_
    obtain rfl : m1 = (Ll.len a) := q0
    obtain ⟨q0, h_⟩ := h_
    obtain rfl : m2 = (Ll.len a) := q0
    obtain ⟨q0, h_⟩ := h_
    obtain rfl : m6 = (Ll.len a) := q0
    obtain ⟨q0, h_⟩ := h_
    obtain rfl : m8 = (Ll.len b) := q0
    obtain ⟨q1, h_⟩ := h_
    have q1 : i_0 = (0 : Int) := q1
    obtain ⟨q2, h_⟩ := br_pre (fs := fsv) (ov := true) h_
    have q2 : (rightB a) = true := q2
    obtain ⟨q3, h_⟩ := br_pre (fs := fsv) (ov := true) h_
    have q3 : (rightB b) = true := q3
    replace h_ : cond (decide (upI a b f t < a.length)) (K_ .ret (hdL (bodyAt Try.prog 32 [false, true, false, true]) T_ (kills [] M_) 69 4 [(14, .ls false 0 (Ll.len a)), (15, .i .i64 (Ll.len a)), (2, .i .i64 f), (3, .i .i64 t), (4, .p 2 0), (5, .p 3 0)] [(0, .list 0 [.int .i64, .int .i64] false a), (1, .list 0 [.int .i64, .int .i64] false b), (2, .row 24 [.ls false 0 (Ll.len a)]), (3, .row 24 [.ls false 1 (Ll.len b)])] [(8, .b false)] [] [] [] (addW ([] ++ []) wr_))) (K_ (.exit 0) (hdL (bodyAt Try.prog 32 [false, true, false, true]) T_ (kills [] M_) 69 4 [(14, .ls false 0 (Ll.len a)), (15, .i .i64 (Ll.len a)), (2, .i .i64 f), (3, .i .i64 t), (4, .p 2 0), (5, .p 3 0)] [(0, .list 0 [.int .i64, .int .i64] false a), (1, .list 0 [.int .i64, .int .i64] false b), (2, .row 24 [.ls false 0 (Ll.len a)]), (3, .row 24 [.ls false 1 (Ll.len b)])] [(16, .i .i64 (Ll.len a))] [] [] [] (addW ([] ++ []) wr_))) := h_
    have hx1 : (decide (upI a b f t < a.length)) = true → K_ .ret (hdL (bodyAt Try.prog 32 [false, true, false, true]) T_ (kills [] M_) 69 4 [(14, .ls false 0 (Ll.len a)), (15, .i .i64 (Ll.len a)), (2, .i .i64 f), (3, .i .i64 t), (4, .p 2 0), (5, .p 3 0)] [(0, .list 0 [.int .i64, .int .i64] false a), (1, .list 0 [.int .i64, .int .i64] false b), (2, .row 24 [.ls false 0 (Ll.len a)]), (3, .row 24 [.ls false 1 (Ll.len b)])] [(8, .b false)] [] [] [] (addW ([] ++ []) wr_)) := fun e1 => by
      have h2 := h_
      rw [e1] at h2; simp only [cond_true, cond_false] at h2; exact h2
    have hx2 : (decide (upI a b f t < a.length)) = false → K_ (.exit 0) (hdL (bodyAt Try.prog 32 [false, true, false, true]) T_ (kills [] M_) 69 4 [(14, .ls false 0 (Ll.len a)), (15, .i .i64 (Ll.len a)), (2, .i .i64 f), (3, .i .i64 t), (4, .p 2 0), (5, .p 3 0)] [(0, .list 0 [.int .i64, .int .i64] false a), (1, .list 0 [.int .i64, .int .i64] false b), (2, .row 24 [.ls false 0 (Ll.len a)]), (3, .row 24 [.ls false 1 (Ll.len b)])] [(16, .i .i64 (Ll.len a))] [] [] [] (addW ([] ++ []) wr_)) := fun e1 => by
      have h2 := h_
      rw [e1] at h2; simp only [cond_true, cond_false] at h2; exact h2
    refine loop_ruleL (fs := fsv) (ov := true) (s := ⟨T_, 69, M_, 4, wr_⟩) (X := Int) (B := []) (mv := []) (kt := [(14, .ls false 0 (Ll.len a)), (15, .i .i64 (Ll.len a)), (2, .i .i64 f), (3, .i .i64 t), (4, .p 2 0), (5, .p 3 0)]) (kr := [(0, .list 0 [.int .i64, .int .i64] false a), (1, .list 0 [.int .i64, .int .i64] false b), (2, .row 24 [.ls false 0 (Ll.len a)]), (3, .row 24 [.ls false 1 (Ll.len b)])]) (ty := []) (x := (i_0))
      (Inv := (fun x_ : Int => match x_ with | (i) => 0 ≤ i ∧ i ≤ upI a b f t)) (μ := (fun x_ : Int => match x_ with | (i) => (24 - i).toNat)) (ts := tsOf [16] [8]) (sl := (fun x_ : Int => match x_ with | (i) => [.i .i64 i])) (bl := (fun x_ : Int => match x_ with | (i) => [])) (ll := (fun x_ : Int => match x_ with | (i) => [])) (Q := fun e_ vs_ os_ hs_ => K_ e_ (hdL (bodyAt Try.prog 32 [false, true, false, true]) T_ (kills [] M_) 69 4 [(14, .ls false 0 (Ll.len a)), (15, .i .i64 (Ll.len a)), (2, .i .i64 f), (3, .i .i64 t), (4, .p 2 0), (5, .p 3 0)] [(0, .list 0 [.int .i64, .int .i64] false a), (1, .list 0 [.int .i64, .int .i64] false b), (2, .row 24 [.ls false 0 (Ll.len a)]), (3, .row 24 [.ls false 1 (Ll.len b)])] (((tsOf [16] [8]) e_).zip vs_) ([].zip os_) [] hs_ (addW ([] ++ []) wr_)))
      (L := LL) (U := 30) (cs := sCall Try.prog 30 (spOf spV) noLoop 20) (call := CN Try.prog AW m_) (lp := noLoop 32) (root := c0_) (p := [false, true, false, true])
      (show CallSOK _ _ from by
        have := sCall_ok (P := Try.prog) (d := m_ - 20) (U := 30) (lp := noLoop) (spV_ok (ov := true) (d := m_ - 20) (by omega)) (spV_aw (fs := fsv) (ov := true)) (noLoop_ok) (by decide) 20
        rwa [show 20 + (m_ - 20) = m_ by omega] at this) (fun p f h => by cases h) (by decide) hc_
      (fun x o ho => by cases ho)
      (fun x hx => by cases hx) (fun x hx => by cases hx) (fun x hx => by cases hx)
      (fun x hx => by
        simp only [List.mem_cons, List.not_mem_nil, or_false] at hx
        rcases hx with rfl | rfl | rfl | rfl | rfl | rfl
        · exact g0
        · exact g1
        · exact g2
        · exact g3
        · exact g4
        · exact g5) (fun x hx => by
        simp only [List.mem_cons, List.not_mem_nil, or_false] at hx
        rcases hx with rfl | rfl | rfl | rfl
        · exact ⟨g6, by simp⟩
        · exact ⟨g7, by simp⟩
        · exact ⟨g8, by simp⟩
        · exact ⟨g9, by simp⟩) ?_ (fun _ _ _ _ _ h => h) ?_ ?_ ?_ hs_
    · rintro i hI
      exact aba_go f t a b i i_0 q1 T_ (kills [] M_) _ q2 q3 hI (fun i' ha hb => ⟨(i'), ha, hb, rfl, rfl, rfl⟩) (fun e1 => ⟨by simp [SO.mine], hx1 e1⟩) (fun e1 => ⟨by simp [SO.mine], hx2 e1⟩)
    · show 0 ≤ i_0 ∧ i_0 ≤ upI a b f t
      exact ⟨by omega, by rw [q1]; exact (leastN_spec _ _ 0).1⟩
    · show (24 - i_0).toNat < LL
      exact Nat.lt_of_le_of_lt (show _ ≤ 1000 by omega) (by decide)
    · exact ⟨⟨[.i .i64 i_0], [], [], [], by simp [gets, tsOf, g0, g1, g2, g3, g4, g5, g6, g7, g8, g9, g10], by simp [gets, g0, g1, g2, g3, g4, g5, g6, g7, g8, g9, g10], rfl, rfl, by simp [listsOf] <;> rfl⟩⟩
  · exact h_.elim
theorem abb_eq (f t i : Int) (a b : Ll) (T : Al (SV (stdA fsv true))) (M : Al (SO (stdA fsv true))) (KK : Ex → List (SV (stdA fsv true)) → List (SO (stdA fsv true)) → List Ll → Prop) : sCode Try.prog (sCall Try.prog 30 (spOf spV) noLoop 20) (noLoop 32) 30 (false :: [false, true, false, true, true]) (bodyAt Try.prog 32 [false, true, false, true, true]) (hdL (bodyAt Try.prog 32 [false, true, false, true, true]) T M 69 4 [(42, .ls false 1 (Ll.len b)), (43, .i .i64 (Ll.len b)), (2, .i .i64 f), (3, .i .i64 t), (4, .p 2 0), (5, .p 3 0)] [(0, .list 0 [.int .i64, .int .i64] false a), (1, .list 0 [.int .i64, .int .i64] false b), (2, .row 24 [.ls false 0 (Ll.len a)]), (3, .row 24 [.ls false 1 (Ll.len b)])] [(44, .i .i64 i)] [] [] [] []) (outL 4 (tsOf [44] [8]) [] [] [] KK) =
  (cond (decide (i < (Ll.len b)))
 ((0 : Int) ≤ i ∧ (i < (Ll.len b) ∧ (i < (Ll.len b) ∧ (cond (decide (f ≤ (Ll.get b i 0)))
 (cond (decide ((Ll.get b i 0) ≤ t))
 ((Ll.len a) = (Ll.len a) ∧ (cond (rightB a)
 (cond (decide ((valLo a (Ll.get b i 0)) < (Ll.get b i 1)))
 (KK .ret [(.b false)] [] [])
 (InK .i64 (i + (1 : Int)) ∧ (KK .normal [(.i .i64 (i + (1 : Int)))] [] [])))
 False))
 (InK .i64 (i + (1 : Int)) ∧ (KK .normal [(.i .i64 (i + (1 : Int)))] [] [])))
 (InK .i64 (i + (1 : Int)) ∧ (KK .normal [(.i .i64 (i + (1 : Int)))] [] []))))))
 (KK (.exit 2) [(.i .i64 i)] [] [])) := by kernel_rfl
theorem abb_go (f : Int) (t : Int) (a : Ll) (b : Ll) (i : Int) (i_0 : Int) (r1 : i_0 = (0 : Int)) (T : Al (SV (stdA fsv true))) (M : Al (SO (stdA fsv true))) (KK : Ex → List (SV (stdA fsv true)) → List (SO (stdA fsv true)) → List Ll → Prop) (p1 : (rightB a) = true) (p2 : (rightB b) = true) (hI : 0 ≤ i ∧ i ≤ dnI a b f t) (hn : ∀ (i' : Int), 0 ≤ i' ∧ i' ≤ dnI a b f t → (24 - i').toNat < (24 - i).toNat → KK .normal [.i .i64 i'] [] []) (hx1 : (decide (dnI a b f t < b.length)) = true → KK .ret [.b false] [] []) (hx2 : (decide (dnI a b f t < b.length)) = false → KK (.exit 2) [.i .i64 (Ll.len b)] [] []) :
    sCode Try.prog (sCall Try.prog 30 (spOf spV) noLoop 20) (noLoop 32) 30 (false :: [false, true, false, true, true]) (bodyAt Try.prog 32 [false, true, false, true, true]) (hdL (bodyAt Try.prog 32 [false, true, false, true, true]) T M 69 4 [(42, .ls false 1 (Ll.len b)), (43, .i .i64 (Ll.len b)), (2, .i .i64 f), (3, .i .i64 t), (4, .p 2 0), (5, .p 3 0)] [(0, .list 0 [.int .i64, .int .i64] false a), (1, .list 0 [.int .i64, .int .i64] false b), (2, .row 24 [.ls false 0 (Ll.len a)]), (3, .row 24 [.ls false 1 (Ll.len b)])] [(44, .i .i64 i)] [] [] [] []) (outL 4 (tsOf [44] [8]) [] [] [] KK) := by
  refine Eq.mpr (abb_eq f t i a b T M KK) ?_
  have hl : Ll.len b = (b.length : Int) := rfl
  have hR := right_of p1
  have hS := right_of p2
  have hlen := hR.len
  have hlen2 := hS.len
  obtain ⟨i0, i1⟩ := hI
  obtain ⟨_, a2, _, _⟩ := leastN_spec (adn a b f t) b.length 0
  have a3 : dnI a b f t ≤ b.length := by unfold dnI; omega
  by_cases h : i < Ll.len b
  · have hs := leastN_step (p := adn a b f t) (k := b.length) i0 i1 (by omega)
    have hg := hS.any (j := i) (by omega) (by omega)
    have stop : (f ≤ Ll.get b i 0 ∧ Ll.get b i 0 ≤ t) ∧ valLo a (Ll.get b i 0) < Ll.get b i 1 → KK .ret [.b false] [] [] := fun hb => hx1 (decide_eq_true (by have := hs.1 (decide_eq_true (by exact hb)); unfold dnI; omega))
    have next : ¬ ((f ≤ Ll.get b i 0 ∧ Ll.get b i 0 ≤ t) ∧ valLo a (Ll.get b i 0) < Ll.get b i 1) → KK .normal [.i .i64 (i + 1)] [] [] := fun hb => hn (i + 1) ⟨by omega, hs.2 (decide_eq_false (by exact hb))⟩ (by omega)
    clear hs hn hx1 hx2 a2 a3
    rw [decide_eq_true h, p1]
    generalize valLo a (Ll.get b i 0) = c2 at *
    generalize Ll.get b i 0 = c0 at *
    generalize Ll.get b i 1 = c1 at *
    simp only [cond_iff, InK64]
    repeat' (first | apply And.intro | intro _)
    all_goals first | trivial | omega | exact stop (by omega) | exact next (by omega) | (exfalso; simp_all; done)
  · rw [decide_eq_false h]
    obtain rfl : i = Ll.len b := by omega
    exact hx2 (decide_eq_false (by omega))
abbrev abbF {A : Go.Rx.Alg} : Code → Go.Rx.SS A → (Go.Rx.Ex → Go.Rx.SS A → A.R) → A.R := fun c_ s_ K_ => match s_.T.get 42, s_.T.get 43, s_.T.get 2, s_.T.get 3, s_.T.get 4, s_.T.get 5, s_.H.get 0, s_.H.get 1, s_.H.get 2, s_.H.get 3, s_.T.get 44 with
  | some (.ls false 1 m1), some (.i .i64 m2), some (.i .i64 f), some (.i .i64 t), some (.p 2 0), some (.p 3 0), some (.list t3 k3 false a), some (.list t4 k4 false b), some (.row t5 [.ls false 0 m6]), some (.row t7 [.ls false 1 m8]), some (.i .i64 i) => bif (((((((Nat.beq s_.N 69 && Nat.beq s_.nx 4) && Nat.beq t3 0) && decide (k3 = [.int .i64, .int .i64])) && Nat.beq t4 0) && decide (k4 = [.int .i64, .int .i64])) && Nat.beq t5 24) && Nat.beq t7 24) then (A.need .eql m1 (A.len b) (A.need .eql m2 (A.len b) (A.need .eql m6 (A.len a) (A.need .eql m8 (A.len b) (A.need .eql i (A.lit 0) (A.br (A.appB 32 [a] []) (fun _ => (A.br (A.appB 32 [b] []) (fun _ => ((A.br (A.appB 36 [a, b] [f, t]) (fun _ => K_ .ret (Go.Rx.hdL c_ s_.T (Go.Rx.kills [] s_.H) 69 4 [(42, .ls false 1 (A.len b)), (43, .i .i64 (A.len b)), (2, .i .i64 f), (3, .i .i64 t), (4, .p 2 0), (5, .p 3 0)] [(0, .list 0 [.int .i64, .int .i64] false a), (1, .list 0 [.int .i64, .int .i64] false b), (2, .row 24 [.ls false 0 (A.len a)]), (3, .row 24 [.ls false 1 (A.len b)])] [(8, .b (A.ofB false))] [] [] [] (Go.Rx.addW ([] ++ []) s_.wr))) (fun _ => K_ (.exit 2) (Go.Rx.hdL c_ s_.T (Go.Rx.kills [] s_.H) 69 4 [(42, .ls false 1 (A.len b)), (43, .i .i64 (A.len b)), (2, .i .i64 f), (3, .i .i64 t), (4, .p 2 0), (5, .p 3 0)] [(0, .list 0 [.int .i64, .int .i64] false a), (1, .list 0 [.int .i64, .int .i64] false b), (2, .row 24 [.ls false 0 (A.len a)]), (3, .row 24 [.ls false 1 (A.len b)])] [(44, .i .i64 (A.len b))] [] [] [] (Go.Rx.addW ([] ++ []) s_.wr)))))) (fun _ => A.fail "pre"))) (fun _ => A.fail "pre"))))))) else A.fail "frame of abb"
  | _, _, _, _, _, _, _, _, _, _, _ => A.fail "abb"
theorem abbF_ok {d : Nat} (hd : 400 ≤ d) : LoopOK (fs := fsv) (ov := true) Try.prog AW d 32 [false, true, false, true, true] abbF := by
  intro m_ hm_ fn_ c0_ hfn_ hb_ c_ ro_ hc_ s_ K_ W_ ν_ S_ h_ hs_
  obtain rfl := body_of hfn_ hb_ hc_
  unfold abbF at h_
  split at h_
  · rename_i m1_0 m2_0 f_0 t_0 t3 k3 a_0 t4 k4 b_0 t5 m6_0 t7 m8_0 i_0_0 g0 g1 g2 g3 g4 g5 g6 g7 g8 g9 g10
    obtain ⟨m1, rfl⟩ : ∃ q : Int, q = m1_0 := ⟨m1_0, rfl⟩
    obtain ⟨m2, rfl⟩ : ∃ q : Int, q = m2_0 := ⟨m2_0, rfl⟩
    obtain ⟨f, rfl⟩ : ∃ q : Int, q = f_0 := ⟨f_0, rfl⟩
    obtain ⟨t, rfl⟩ : ∃ q : Int, q = t_0 := ⟨t_0, rfl⟩
    obtain ⟨a, rfl⟩ : ∃ q : Ll, q = a_0 := ⟨a_0, rfl⟩
    obtain ⟨b, rfl⟩ : ∃ q : Ll, q = b_0 := ⟨b_0, rfl⟩
    obtain ⟨m6, rfl⟩ : ∃ q : Int, q = m6_0 := ⟨m6_0, rfl⟩
    obtain ⟨m8, rfl⟩ : ∃ q : Int, q = m8_0 := ⟨m8_0, rfl⟩
    obtain ⟨i_0, rfl⟩ : ∃ q : Int, q = i_0_0 := ⟨i_0_0, rfl⟩
    obtain ⟨T_, FN_, M_, snx_, wr_⟩ := s_
    have hN : (((((((Nat.beq FN_ 69 && Nat.beq snx_ 4) && Nat.beq t3 0) && decide (k3 = [.int .i64, .int .i64])) && Nat.beq t4 0) && decide (k4 = [.int .i64, .int .i64])) && Nat.beq t5 24) && Nat.beq t7 24) = true := by
      cases hq : ((((((((Nat.beq FN_ 69 && Nat.beq snx_ 4) && Nat.beq t3 0) && decide (k3 = [.int .i64, .int .i64])) && Nat.beq t4 0) && decide (k4 = [.int .i64, .int .i64])) && Nat.beq t5 24) && Nat.beq t7 24) : Bool) with
      | true => rfl
      | false => (rw [hq] at h_; exact h_.elim)
    rw [hN, cond_true] at h_
    simp only [Bool.and_eq_true, beq_iff, decide_eq_true_eq] at hN
    obtain ⟨⟨⟨⟨⟨⟨⟨rfl, rfl⟩, rfl⟩, rfl⟩, rfl⟩, rfl⟩, rfl⟩, rfl⟩ := hN
    obtain ⟨q0, h_⟩ := h_
    obtain rfl : m1 = (Ll.len b) := q0
    obtain ⟨q0, h_⟩ := h_
    obtain rfl : m2 = (Ll.len b) := q0
    obtain ⟨q0, h_⟩ := h_
    obtain rfl : m6 = (Ll.len a) := q0
    obtain ⟨q0, h_⟩ := h_
    obtain rfl : m8 = (Ll.len b) := q0
    obtain ⟨q1, h_⟩ := h_
    have q1 : i_0 = (0 : Int) := q1
    obtain ⟨q2, h_⟩ := br_pre (fs := fsv) (ov := true) h_
    have q2 : (rightB a) = true := q2
    obtain ⟨q3, h_⟩ := br_pre (fs := fsv) (ov := true) h_
    have q3 : (rightB b) = true := q3
    replace h_ : cond (decide (dnI a b f t < b.length)) (K_ .ret (hdL (bodyAt Try.prog 32 [false, true, false, true, true]) T_ (kills [] M_) 69 4 [(42, .ls false 1 (Ll.len b)), (43, .i .i64 (Ll.len b)), (2, .i .i64 f), (3, .i .i64 t), (4, .p 2 0), (5, .p 3 0)] [(0, .list 0 [.int .i64, .int .i64] false a), (1, .list 0 [.int .i64, .int .i64] false b), (2, .row 24 [.ls false 0 (Ll.len a)]), (3, .row 24 [.ls false 1 (Ll.len b)])] [(8, .b false)] [] [] [] (addW ([] ++ []) wr_))) (K_ (.exit 2) (hdL (bodyAt Try.prog 32 [false, true, false, true, true]) T_ (kills [] M_) 69 4 [(42, .ls false 1 (Ll.len b)), (43, .i .i64 (Ll.len b)), (2, .i .i64 f), (3, .i .i64 t), (4, .p 2 0), (5, .p 3 0)] [(0, .list 0 [.int .i64, .int .i64] false a), (1, .list 0 [.int .i64, .int .i64] false b), (2, .row 24 [.ls false 0 (Ll.len a)]), (3, .row 24 [.ls false 1 (Ll.len b)])] [(44, .i .i64 (Ll.len b))] [] [] [] (addW ([] ++ []) wr_))) := h_
    have hx1 : (decide (dnI a b f t < b.length)) = true → K_ .ret (hdL (bodyAt Try.prog 32 [false, true, false, true, true]) T_ (kills [] M_) 69 4 [(42, .ls false 1 (Ll.len b)), (43, .i .i64 (Ll.len b)), (2, .i .i64 f), (3, .i .i64 t), (4, .p 2 0), (5, .p 3 0)] [(0, .list 0 [.int .i64, .int .i64] false a), (1, .list 0 [.int .i64, .int .i64] false b), (2, .row 24 [.ls false 0 (Ll.len a)]), (3, .row 24 [.ls false 1 (Ll.len b)])] [(8, .b false)] [] [] [] (addW ([] ++ []) wr_)) := fun e1 => by
      have h2 := h_
      rw [e1] at h2; simp only [cond_true, cond_false] at h2; exact h2
    have hx2 : (decide (dnI a b f t < b.length)) = false → K_ (.exit 2) (hdL (bodyAt Try.prog 32 [false, true, false, true, true]) T_ (kills [] M_) 69 4 [(42, .ls false 1 (Ll.len b)), (43, .i .i64 (Ll.len b)), (2, .i .i64 f), (3, .i .i64 t), (4, .p 2 0), (5, .p 3 0)] [(0, .list 0 [.int .i64, .int .i64] false a), (1, .list 0 [.int .i64, .int .i64] false b), (2, .row 24 [.ls false 0 (Ll.len a)]), (3, .row 24 [.ls false 1 (Ll.len b)])] [(44, .i .i64 (Ll.len b))] [] [] [] (addW ([] ++ []) wr_)) := fun e1 => by
      have h2 := h_
      rw [e1] at h2; simp only [cond_true, cond_false] at h2; exact h2
    refine loop_ruleL (fs := fsv) (ov := true) (s := ⟨T_, 69, M_, 4, wr_⟩) (X := Int) (B := []) (mv := []) (kt := [(42, .ls false 1 (Ll.len b)), (43, .i .i64 (Ll.len b)), (2, .i .i64 f), (3, .i .i64 t), (4, .p 2 0), (5, .p 3 0)]) (kr := [(0, .list 0 [.int .i64, .int .i64] false a), (1, .list 0 [.int .i64, .int .i64] false b), (2, .row 24 [.ls false 0 (Ll.len a)]), (3, .row 24 [.ls false 1 (Ll.len b)])]) (ty := []) (x := (i_0))
      (Inv := (fun x_ : Int => match x_ with | (i) => 0 ≤ i ∧ i ≤ dnI a b f t)) (μ := (fun x_ : Int => match x_ with | (i) => (24 - i).toNat)) (ts := tsOf [44] [8]) (sl := (fun x_ : Int => match x_ with | (i) => [.i .i64 i])) (bl := (fun x_ : Int => match x_ with | (i) => [])) (ll := (fun x_ : Int => match x_ with | (i) => [])) (Q := fun e_ vs_ os_ hs_ => K_ e_ (hdL (bodyAt Try.prog 32 [false, true, false, true, true]) T_ (kills [] M_) 69 4 [(42, .ls false 1 (Ll.len b)), (43, .i .i64 (Ll.len b)), (2, .i .i64 f), (3, .i .i64 t), (4, .p 2 0), (5, .p 3 0)] [(0, .list 0 [.int .i64, .int .i64] false a), (1, .list 0 [.int .i64, .int .i64] false b), (2, .row 24 [.ls false 0 (Ll.len a)]), (3, .row 24 [.ls false 1 (Ll.len b)])] (((tsOf [44] [8]) e_).zip vs_) ([].zip os_) [] hs_ (addW ([] ++ []) wr_)))
      (L := LL) (U := 30) (cs := sCall Try.prog 30 (spOf spV) noLoop 20) (call := CN Try.prog AW m_) (lp := noLoop 32) (root := c0_) (p := [false, true, false, true, true])
      (show CallSOK _ _ from by
        have := sCall_ok (P := Try.prog) (d := m_ - 20) (U := 30) (lp := noLoop) (spV_ok (ov := true) (d := m_ - 20) (by omega)) (spV_aw (fs := fsv) (ov := true)) (noLoop_ok) (by decide) 20
        rwa [show 20 + (m_ - 20) = m_ by omega] at this) (fun p f h => by cases h) (by decide) hc_
      (fun x o ho => by cases ho)
      (fun x hx => by cases hx) (fun x hx => by cases hx) (fun x hx => by cases hx)
      (fun x hx => by
        simp only [List.mem_cons, List.not_mem_nil, or_false] at hx
        rcases hx with rfl | rfl | rfl | rfl | rfl | rfl
        · exact g0
        · exact g1
        · exact g2
        · exact g3
        · exact g4
        · exact g5) (fun x hx => by
        simp only [List.mem_cons, List.not_mem_nil, or_false] at hx
        rcases hx with rfl | rfl | rfl | rfl
        · exact ⟨g6, by simp⟩
        · exact ⟨g7, by simp⟩
        · exact ⟨g8, by simp⟩
        · exact ⟨g9, by simp⟩) ?_ (fun _ _ _ _ _ h => h) ?_ ?_ ?_ hs_
    · rintro i hI
      exact abb_go f t a b i i_0 q1 T_ (kills [] M_) _ q2 q3 hI (fun i' ha hb => ⟨(i'), ha, hb, rfl, rfl, rfl⟩) (fun e1 => ⟨by simp [SO.mine], hx1 e1⟩) (fun e1 => ⟨by simp [SO.mine], hx2 e1⟩)
    · show 0 ≤ i_0 ∧ i_0 ≤ dnI a b f t
      exact ⟨by omega, by rw [q1]; exact (leastN_spec _ _ 0).1⟩
    · show (24 - i_0).toNat < LL
      exact Nat.lt_of_le_of_lt (show _ ≤ 1000 by omega) (by decide)
    · exact ⟨⟨[.i .i64 i_0], [], [], [], by simp [gets, tsOf, g0, g1, g2, g3, g4, g5, g6, g7, g8, g9, g10], by simp [gets, g0, g1, g2, g3, g4, g5, g6, g7, g8, g9, g10], rfl, rfl, by simp [listsOf] <;> rfl⟩⟩
  · exact h_.elim
abbrev lpAb {A : Go.Rx.Alg} : Nat → Go.Rx.LoopS A := Go.Rx.lpOf [(32, [false, true, false, true], abaF), (32, [false, true, false, true, true], abbF)]
theorem lpAb_ok {d : Nat} (hd : 400 ≤ d) : LoopsAll (fs := fsv) (ov := true) Try.prog AW d lpAb := lpOf_ok fun x hx => by
  simp only [List.mem_cons, List.not_mem_nil, or_false] at hx
  rcases hx with rfl | rfl
  · exact abaF_ok (by omega)
  · exact abbF_ok (by omega)
theorem raba_eq (i : Int) (a b : Ll) (T : Al (SV (stdA fsv true))) (M : Al (SO (stdA fsv true))) (KK : Ex → List (SV (stdA fsv true)) → List (SO (stdA fsv true)) → List Ll → Prop) : sCode Try.prog (sCall Try.prog 30 (spOf spRV) noLoop 20) (noLoop 33) 30 (false :: [false, true, false, true]) (bodyAt Try.prog 33 [false, true, false, true]) (hdL (bodyAt Try.prog 33 [false, true, false, true]) T M 53 4 [(2, .p 2 0), (3, .p 3 0)] [(0, .list 0 [.int .i64, .int .i64] false a), (1, .list 0 [.int .i64, .int .i64] false b), (2, .row 24 [.ls false 0 (Ll.len a)]), (3, .row 24 [.ls false 1 (Ll.len b)])] [(5, .i .i64 i)] [] [] [] []) (outL 4 (tsOf [5] [4]) [] [] [] KK) =
  (cond (decide (i < (Ll.len a)))
 ((0 : Int) ≤ i ∧ (i < (Ll.len a) ∧ (i < (Ll.len a) ∧ ((0 : Int) ≤ i ∧ (i < (Ll.len a) ∧ (i < (Ll.len a) ∧ ((Ll.len b) = (Ll.len b) ∧ (cond (rightB b)
 (cond (decide ((Ll.get a i 1) < (valHi b (Ll.get a i 0))))
 (KK .ret [(.b false)] [] [])
 (InK .i64 (i + (1 : Int)) ∧ (KK .normal [(.i .i64 (i + (1 : Int)))] [] [])))
 False))))))))
 (KK (.exit 0) [(.i .i64 i)] [] [])) := by kernel_rfl
theorem raba_go (a : Ll) (b : Ll) (i : Int) (i_0 : Int) (r1 : i_0 = (0 : Int)) (T : Al (SV (stdA fsv true))) (M : Al (SO (stdA fsv true))) (KK : Ex → List (SV (stdA fsv true)) → List (SO (stdA fsv true)) → List Ll → Prop) (p1 : (rightB a) = true) (p2 : (rightB b) = true) (hI : 0 ≤ i ∧ i ≤ upI a b 0 1099511627776) (hn : ∀ (i' : Int), 0 ≤ i' ∧ i' ≤ upI a b 0 1099511627776 → (24 - i').toNat < (24 - i).toNat → KK .normal [.i .i64 i'] [] []) (hx1 : (decide (upI a b (0 : Int) (1099511627776 : Int) < a.length)) = true → KK .ret [.b false] [] []) (hx2 : (decide (upI a b (0 : Int) (1099511627776 : Int) < a.length)) = false → KK (.exit 0) [.i .i64 (Ll.len a)] [] []) :
    sCode Try.prog (sCall Try.prog 30 (spOf spRV) noLoop 20) (noLoop 33) 30 (false :: [false, true, false, true]) (bodyAt Try.prog 33 [false, true, false, true]) (hdL (bodyAt Try.prog 33 [false, true, false, true]) T M 53 4 [(2, .p 2 0), (3, .p 3 0)] [(0, .list 0 [.int .i64, .int .i64] false a), (1, .list 0 [.int .i64, .int .i64] false b), (2, .row 24 [.ls false 0 (Ll.len a)]), (3, .row 24 [.ls false 1 (Ll.len b)])] [(5, .i .i64 i)] [] [] [] []) (outL 4 (tsOf [5] [4]) [] [] [] KK) := by
  refine Eq.mpr (raba_eq i a b T M KK) ?_
  have hl : Ll.len a = (a.length : Int) := rfl
  have hR := right_of p1
  have hS := right_of p2
  have hlen := hR.len
  have hlen2 := hS.len
  obtain ⟨i0, i1⟩ := hI
  obtain ⟨_, a2, _, _⟩ := leastN_spec (aup a b 0 1099511627776) a.length 0
  have a3 : upI a b 0 1099511627776 ≤ a.length := by unfold upI; omega
  by_cases h : i < Ll.len a
  · have hs := leastN_step (p := aup a b 0 1099511627776) (k := a.length) i0 i1 (by omega)
    have hg := hR.any (j := i) (by omega) (by omega)
    have stop : Ll.get a i 1 < valHi b (Ll.get a i 0) → KK .ret [.b false] [] [] := fun hb => hx1 (decide_eq_true (by have := hs.1 (decide_eq_true (by omega)); unfold upI; omega))
    have next : ¬ (Ll.get a i 1 < valHi b (Ll.get a i 0)) → KK .normal [.i .i64 (i + 1)] [] [] := fun hb => hn (i + 1) ⟨by omega, hs.2 (decide_eq_false (by omega))⟩ (by omega)
    clear hs hn hx1 hx2 a2 a3
    rw [decide_eq_true h, p2]
    generalize valHi b (Ll.get a i 0) = c2 at *
    generalize Ll.get a i 0 = c0 at *
    generalize Ll.get a i 1 = c1 at *
    simp only [cond_iff, InK64]
    repeat' (first | apply And.intro | intro _)
    all_goals first | trivial | omega | exact stop (by omega) | exact next (by omega) | (exfalso; simp_all; done)
  · rw [decide_eq_false h]
    obtain rfl : i = Ll.len a := by omega
    exact hx2 (decide_eq_false (by omega))
abbrev rabaF {A : Go.Rx.Alg} : Code → Go.Rx.SS A → (Go.Rx.Ex → Go.Rx.SS A → A.R) → A.R := fun c_ s_ K_ => match s_.T.get 2, s_.T.get 3, s_.H.get 0, s_.H.get 1, s_.H.get 2, s_.H.get 3, s_.T.get 5 with
  | some (.p 2 0), some (.p 3 0), some (.list t1 k1 false a), some (.list t2 k2 false b), some (.row t3 [.ls false 0 m4]), some (.row t5 [.ls false 1 m6]), some (.i .i64 i) => bif (((((((Nat.beq s_.N 53 && Nat.beq s_.nx 4) && Nat.beq t1 0) && decide (k1 = [.int .i64, .int .i64])) && Nat.beq t2 0) && decide (k2 = [.int .i64, .int .i64])) && Nat.beq t3 24) && Nat.beq t5 24) then (A.need .eql m4 (A.len a) (A.need .eql m6 (A.len b) (A.need .eql i (A.lit 0) (A.br (A.appB 32 [a] []) (fun _ => (A.br (A.appB 32 [b] []) (fun _ => ((A.br (A.appB 35 [a, b] [(A.lit 0), (A.lit 1099511627776)]) (fun _ => K_ .ret (Go.Rx.hdL c_ s_.T (Go.Rx.kills [] s_.H) 53 4 [(2, .p 2 0), (3, .p 3 0)] [(0, .list 0 [.int .i64, .int .i64] false a), (1, .list 0 [.int .i64, .int .i64] false b), (2, .row 24 [.ls false 0 (A.len a)]), (3, .row 24 [.ls false 1 (A.len b)])] [(4, .b (A.ofB false))] [] [] [] (Go.Rx.addW ([] ++ []) s_.wr))) (fun _ => K_ (.exit 0) (Go.Rx.hdL c_ s_.T (Go.Rx.kills [] s_.H) 53 4 [(2, .p 2 0), (3, .p 3 0)] [(0, .list 0 [.int .i64, .int .i64] false a), (1, .list 0 [.int .i64, .int .i64] false b), (2, .row 24 [.ls false 0 (A.len a)]), (3, .row 24 [.ls false 1 (A.len b)])] [(5, .i .i64 (A.len a))] [] [] [] (Go.Rx.addW ([] ++ []) s_.wr)))))) (fun _ => A.fail "pre"))) (fun _ => A.fail "pre"))))) else A.fail "frame of raba"
  | _, _, _, _, _, _, _ => A.fail "raba"
theorem rabaF_ok {d : Nat} (hd : 400 ≤ d) : LoopOK (fs := fsv) (ov := true) Try.prog AW d 33 [false, true, false, true] rabaF := by
  intro m_ hm_ fn_ c0_ hfn_ hb_ c_ ro_ hc_ s_ K_ W_ ν_ S_ h_ hs_
  obtain rfl := body_of hfn_ hb_ hc_
  unfold rabaF at h_
  split at h_
  · rename_i t1 k1 a_0 t2 k2 b_0 t3 m4_0 t5 m6_0 i_0_0 g0 g1 g2 g3 g4 g5 g6
    obtain ⟨a, rfl⟩ : ∃ q : Ll, q = a_0 := ⟨a_0, rfl⟩
    obtain ⟨b, rfl⟩ : ∃ q : Ll, q = b_0 := ⟨b_0, rfl⟩
    obtain ⟨m4, rfl⟩ : ∃ q : Int, q = m4_0 := ⟨m4_0, rfl⟩
    obtain ⟨m6, rfl⟩ : ∃ q : Int, q = m6_0 := ⟨m6_0, rfl⟩
    obtain ⟨i_0, rfl⟩ : ∃ q : Int, q = i_0_0 := ⟨i_0_0, rfl⟩
    obtain ⟨T_, FN_, M_, snx_, wr_⟩ := s_
    have hN : (((((((Nat.beq FN_ 53 && Nat.beq snx_ 4) && Nat.beq t1 0) && decide (k1 = [.int .i64, .int .i64])) && Nat.beq t2 0) && decide (k2 = [.int .i64, .int .i64])) && Nat.beq t3 24) && Nat.beq t5 24) = true := by
      cases hq : ((((((((Nat.beq FN_ 53 && Nat.beq snx_ 4) && Nat.beq t1 0) && decide (k1 = [.int .i64, .int .i64])) && Nat.beq t2 0) && decide (k2 = [.int .i64, .int .i64])) && Nat.beq t3 24) && Nat.beq t5 24) : Bool) with
      | true => rfl
      | false => (rw [hq] at h_; exact h_.elim)
    rw [hN, cond_true] at h_
    simp only [Bool.and_eq_true, beq_iff, decide_eq_true_eq] at hN
    obtain ⟨⟨⟨⟨⟨⟨⟨rfl, rfl⟩, rfl⟩, rfl⟩, rfl⟩, rfl⟩, rfl⟩, rfl⟩ := hN
    obtain ⟨q0, h_⟩ := h_
    obtain rfl : m4 = (Ll.len a) := q0
    obtain ⟨q0, h_⟩ := h_
    obtain rfl : m6 = (Ll.len b) := q0
    obtain ⟨q1, h_⟩ := h_
    have q1 : i_0 = (0 : Int) := q1
    obtain ⟨q2, h_⟩ := br_pre (fs := fsv) (ov := true) h_
    have q2 : (rightB a) = true := q2
    obtain ⟨q3, h_⟩ := br_pre (fs := fsv) (ov := true) h_
    have q3 : (rightB b) = true := q3
    replace h_ : cond (decide (upI a b (0 : Int) (1099511627776 : Int) < a.length)) (K_ .ret (hdL (bodyAt Try.prog 33 [false, true, false, true]) T_ (kills [] M_) 53 4 [(2, .p 2 0), (3, .p 3 0)] [(0, .list 0 [.int .i64, .int .i64] false a), (1, .list 0 [.int .i64, .int .i64] false b), (2, .row 24 [.ls false 0 (Ll.len a)]), (3, .row 24 [.ls false 1 (Ll.len b)])] [(4, .b false)] [] [] [] (addW ([] ++ []) wr_))) (K_ (.exit 0) (hdL (bodyAt Try.prog 33 [false, true, false, true]) T_ (kills [] M_) 53 4 [(2, .p 2 0), (3, .p 3 0)] [(0, .list 0 [.int .i64, .int .i64] false a), (1, .list 0 [.int .i64, .int .i64] false b), (2, .row 24 [.ls false 0 (Ll.len a)]), (3, .row 24 [.ls false 1 (Ll.len b)])] [(5, .i .i64 (Ll.len a))] [] [] [] (addW ([] ++ []) wr_))) := h_
    have hx1 : (decide (upI a b (0 : Int) (1099511627776 : Int) < a.length)) = true → K_ .ret (hdL (bodyAt Try.prog 33 [false, true, false, true]) T_ (kills [] M_) 53 4 [(2, .p 2 0), (3, .p 3 0)] [(0, .list 0 [.int .i64, .int .i64] false a), (1, .list 0 [.int .i64, .int .i64] false b), (2, .row 24 [.ls false 0 (Ll.len a)]), (3, .row 24 [.ls false 1 (Ll.len b)])] [(4, .b false)] [] [] [] (addW ([] ++ []) wr_)) := fun e1 => by
      have h2 := h_
      rw [e1] at h2; simp only [cond_true, cond_false] at h2; exact h2
    have hx2 : (decide (upI a b (0 : Int) (1099511627776 : Int) < a.length)) = false → K_ (.exit 0) (hdL (bodyAt Try.prog 33 [false, true, false, true]) T_ (kills [] M_) 53 4 [(2, .p 2 0), (3, .p 3 0)] [(0, .list 0 [.int .i64, .int .i64] false a), (1, .list 0 [.int .i64, .int .i64] false b), (2, .row 24 [.ls false 0 (Ll.len a)]), (3, .row 24 [.ls false 1 (Ll.len b)])] [(5, .i .i64 (Ll.len a))] [] [] [] (addW ([] ++ []) wr_)) := fun e1 => by
      have h2 := h_
      rw [e1] at h2; simp only [cond_true, cond_false] at h2; exact h2
    refine loop_ruleL (fs := fsv) (ov := true) (s := ⟨T_, 53, M_, 4, wr_⟩) (X := Int) (B := []) (mv := []) (kt := [(2, .p 2 0), (3, .p 3 0)]) (kr := [(0, .list 0 [.int .i64, .int .i64] false a), (1, .list 0 [.int .i64, .int .i64] false b), (2, .row 24 [.ls false 0 (Ll.len a)]), (3, .row 24 [.ls false 1 (Ll.len b)])]) (ty := []) (x := (i_0))
      (Inv := (fun x_ : Int => match x_ with | (i) => 0 ≤ i ∧ i ≤ upI a b 0 1099511627776)) (μ := (fun x_ : Int => match x_ with | (i) => (24 - i).toNat)) (ts := tsOf [5] [4]) (sl := (fun x_ : Int => match x_ with | (i) => [.i .i64 i])) (bl := (fun x_ : Int => match x_ with | (i) => [])) (ll := (fun x_ : Int => match x_ with | (i) => [])) (Q := fun e_ vs_ os_ hs_ => K_ e_ (hdL (bodyAt Try.prog 33 [false, true, false, true]) T_ (kills [] M_) 53 4 [(2, .p 2 0), (3, .p 3 0)] [(0, .list 0 [.int .i64, .int .i64] false a), (1, .list 0 [.int .i64, .int .i64] false b), (2, .row 24 [.ls false 0 (Ll.len a)]), (3, .row 24 [.ls false 1 (Ll.len b)])] (((tsOf [5] [4]) e_).zip vs_) ([].zip os_) [] hs_ (addW ([] ++ []) wr_)))
      (L := LL) (U := 30) (cs := sCall Try.prog 30 (spOf spRV) noLoop 20) (call := CN Try.prog AW m_) (lp := noLoop 33) (root := c0_) (p := [false, true, false, true])
      (show CallSOK _ _ from by
        have := sCall_ok (P := Try.prog) (d := m_ - 20) (U := 30) (lp := noLoop) (spRV_ok (ov := true) (d := m_ - 20) (by omega)) (spRV_aw (fs := fsv) (ov := true)) (noLoop_ok) (by decide) 20
        rwa [show 20 + (m_ - 20) = m_ by omega] at this) (fun p f h => by cases h) (by decide) hc_
      (fun x o ho => by cases ho)
      (fun x hx => by cases hx) (fun x hx => by cases hx) (fun x hx => by cases hx)
      (fun x hx => by
        simp only [List.mem_cons, List.not_mem_nil, or_false] at hx
        rcases hx with rfl | rfl
        · exact g0
        · exact g1) (fun x hx => by
        simp only [List.mem_cons, List.not_mem_nil, or_false] at hx
        rcases hx with rfl | rfl | rfl | rfl
        · exact ⟨g2, by simp⟩
        · exact ⟨g3, by simp⟩
        · exact ⟨g4, by simp⟩
        · exact ⟨g5, by simp⟩) ?_ (fun _ _ _ _ _ h => h) ?_ ?_ ?_ hs_
    · rintro i hI
      exact raba_go a b i i_0 q1 T_ (kills [] M_) _ q2 q3 hI (fun i' ha hb => ⟨(i'), ha, hb, rfl, rfl, rfl⟩) (fun e1 => ⟨by simp [SO.mine], hx1 e1⟩) (fun e1 => ⟨by simp [SO.mine], hx2 e1⟩)
    · show 0 ≤ i_0 ∧ i_0 ≤ upI a b 0 1099511627776
      exact ⟨by omega, by rw [q1]; exact (leastN_spec _ _ 0).1⟩
    · show (24 - i_0).toNat < LL
      exact Nat.lt_of_le_of_lt (show _ ≤ 1000 by omega) (by decide)
    · exact ⟨⟨[.i .i64 i_0], [], [], [], by simp [gets, tsOf, g0, g1, g2, g3, g4, g5, g6], by simp [gets, g0, g1, g2, g3, g4, g5, g6], rfl, rfl, by simp [listsOf] <;> rfl⟩⟩
  · exact h_.elim
theorem rabb_eq (i : Int) (a b : Ll) (T : Al (SV (stdA fsv true))) (M : Al (SO (stdA fsv true))) (KK : Ex → List (SV (stdA fsv true)) → List (SO (stdA fsv true)) → List Ll → Prop) : sCode Try.prog (sCall Try.prog 30 (spOf spRV) noLoop 20) (noLoop 33) 30 (false :: [false, true, false, true, true]) (bodyAt Try.prog 33 [false, true, false, true, true]) (hdL (bodyAt Try.prog 33 [false, true, false, true, true]) T M 53 4 [(2, .p 2 0), (3, .p 3 0)] [(0, .list 0 [.int .i64, .int .i64] false a), (1, .list 0 [.int .i64, .int .i64] false b), (2, .row 24 [.ls false 0 (Ll.len a)]), (3, .row 24 [.ls false 1 (Ll.len b)])] [(6, .i .i64 i)] [] [] [] []) (outL 4 (tsOf [6] [4]) [] [] [] KK) =
  (cond (decide (i < (Ll.len b)))
 ((0 : Int) ≤ i ∧ (i < (Ll.len b) ∧ (i < (Ll.len b) ∧ ((Ll.len a) = (Ll.len a) ∧ (cond (rightB a)
 ((0 : Int) ≤ i ∧ (i < (Ll.len b) ∧ (i < (Ll.len b) ∧ (cond (decide ((valLo a (Ll.get b i 0)) < (Ll.get b i 1)))
 (KK .ret [(.b false)] [] [])
 (InK .i64 (i + (1 : Int)) ∧ (KK .normal [(.i .i64 (i + (1 : Int)))] [] []))))))
 False)))))
 (KK (.exit 2) [(.i .i64 i)] [] [])) := by kernel_rfl
theorem rabb_go (a : Ll) (b : Ll) (i : Int) (i_0 : Int) (r1 : i_0 = (0 : Int)) (T : Al (SV (stdA fsv true))) (M : Al (SO (stdA fsv true))) (KK : Ex → List (SV (stdA fsv true)) → List (SO (stdA fsv true)) → List Ll → Prop) (p1 : (rightB a) = true) (p2 : (rightB b) = true) (hI : 0 ≤ i ∧ i ≤ dnI a b 0 1099511627776) (hn : ∀ (i' : Int), 0 ≤ i' ∧ i' ≤ dnI a b 0 1099511627776 → (24 - i').toNat < (24 - i).toNat → KK .normal [.i .i64 i'] [] []) (hx1 : (decide (dnI a b (0 : Int) (1099511627776 : Int) < b.length)) = true → KK .ret [.b false] [] []) (hx2 : (decide (dnI a b (0 : Int) (1099511627776 : Int) < b.length)) = false → KK (.exit 2) [.i .i64 (Ll.len b)] [] []) :
    sCode Try.prog (sCall Try.prog 30 (spOf spRV) noLoop 20) (noLoop 33) 30 (false :: [false, true, false, true, true]) (bodyAt Try.prog 33 [false, true, false, true, true]) (hdL (bodyAt Try.prog 33 [false, true, false, true, true]) T M 53 4 [(2, .p 2 0), (3, .p 3 0)] [(0, .list 0 [.int .i64, .int .i64] false a), (1, .list 0 [.int .i64, .int .i64] false b), (2, .row 24 [.ls false 0 (Ll.len a)]), (3, .row 24 [.ls false 1 (Ll.len b)])] [(6, .i .i64 i)] [] [] [] []) (outL 4 (tsOf [6] [4]) [] [] [] KK) := by
  refine Eq.mpr (rabb_eq i a b T M KK) ?_
  have hl : Ll.len b = (b.length : Int) := rfl
  have hR := right_of p1
  have hS := right_of p2
  have hlen := hR.len
  have hlen2 := hS.len
  obtain ⟨i0, i1⟩ := hI
  obtain ⟨_, a2, _, _⟩ := leastN_spec (adn a b 0 1099511627776) b.length 0
  have a3 : dnI a b 0 1099511627776 ≤ b.length := by unfold dnI; omega
  by_cases h : i < Ll.len b
  · have hs := leastN_step (p := adn a b 0 1099511627776) (k := b.length) i0 i1 (by omega)
    have hg := hS.any (j := i) (by omega) (by omega)
    have stop : valLo a (Ll.get b i 0) < Ll.get b i 1 → KK .ret [.b false] [] [] := fun hb => hx1 (decide_eq_true (by have := hs.1 (decide_eq_true (by omega)); unfold dnI; omega))
    have next : ¬ (valLo a (Ll.get b i 0) < Ll.get b i 1) → KK .normal [.i .i64 (i + 1)] [] [] := fun hb => hn (i + 1) ⟨by omega, hs.2 (decide_eq_false (by omega))⟩ (by omega)
    clear hs hn hx1 hx2 a2 a3
    rw [decide_eq_true h, p1]
    generalize valLo a (Ll.get b i 0) = c2 at *
    generalize Ll.get b i 0 = c0 at *
    generalize Ll.get b i 1 = c1 at *
    simp only [cond_iff, InK64]
    repeat' (first | apply And.intro | intro _)
    all_goals first | trivial | omega | exact stop (by omega) | exact next (by omega) | (exfalso; simp_all; done)
  · rw [decide_eq_false h]
    obtain rfl : i = Ll.len b := by omega
    exact hx2 (decide_eq_false (by omega))
abbrev rabbF {A : Go.Rx.Alg} : Code → Go.Rx.SS A → (Go.Rx.Ex → Go.Rx.SS A → A.R) → A.R := fun c_ s_ K_ => match s_.T.get 2, s_.T.get 3, s_.H.get 0, s_.H.get 1, s_.H.get 2, s_.H.get 3, s_.T.get 6 with
  | some (.p 2 0), some (.p 3 0), some (.list t1 k1 false a), some (.list t2 k2 false b), some (.row t3 [.ls false 0 m4]), some (.row t5 [.ls false 1 m6]), some (.i .i64 i) => bif (((((((Nat.beq s_.N 53 && Nat.beq s_.nx 4) && Nat.beq t1 0) && decide (k1 = [.int .i64, .int .i64])) && Nat.beq t2 0) && decide (k2 = [.int .i64, .int .i64])) && Nat.beq t3 24) && Nat.beq t5 24) then (A.need .eql m4 (A.len a) (A.need .eql m6 (A.len b) (A.need .eql i (A.lit 0) (A.br (A.appB 32 [a] []) (fun _ => (A.br (A.appB 32 [b] []) (fun _ => ((A.br (A.appB 36 [a, b] [(A.lit 0), (A.lit 1099511627776)]) (fun _ => K_ .ret (Go.Rx.hdL c_ s_.T (Go.Rx.kills [] s_.H) 53 4 [(2, .p 2 0), (3, .p 3 0)] [(0, .list 0 [.int .i64, .int .i64] false a), (1, .list 0 [.int .i64, .int .i64] false b), (2, .row 24 [.ls false 0 (A.len a)]), (3, .row 24 [.ls false 1 (A.len b)])] [(4, .b (A.ofB false))] [] [] [] (Go.Rx.addW ([] ++ []) s_.wr))) (fun _ => K_ (.exit 2) (Go.Rx.hdL c_ s_.T (Go.Rx.kills [] s_.H) 53 4 [(2, .p 2 0), (3, .p 3 0)] [(0, .list 0 [.int .i64, .int .i64] false a), (1, .list 0 [.int .i64, .int .i64] false b), (2, .row 24 [.ls false 0 (A.len a)]), (3, .row 24 [.ls false 1 (A.len b)])] [(6, .i .i64 (A.len b))] [] [] [] (Go.Rx.addW ([] ++ []) s_.wr)))))) (fun _ => A.fail "pre"))) (fun _ => A.fail "pre"))))) else A.fail "frame of rabb"
  | _, _, _, _, _, _, _ => A.fail "rabb"
theorem rabbF_ok {d : Nat} (hd : 400 ≤ d) : LoopOK (fs := fsv) (ov := true) Try.prog AW d 33 [false, true, false, true, true] rabbF := by
  intro m_ hm_ fn_ c0_ hfn_ hb_ c_ ro_ hc_ s_ K_ W_ ν_ S_ h_ hs_
  obtain rfl := body_of hfn_ hb_ hc_
  unfold rabbF at h_
  split at h_
  · rename_i t1 k1 a_0 t2 k2 b_0 t3 m4_0 t5 m6_0 i_0_0 g0 g1 g2 g3 g4 g5 g6
    obtain ⟨a, rfl⟩ : ∃ q : Ll, q = a_0 := ⟨a_0, rfl⟩
    obtain ⟨b, rfl⟩ : ∃ q : Ll, q = b_0 := ⟨b_0, rfl⟩
    obtain ⟨m4, rfl⟩ : ∃ q : Int, q = m4_0 := ⟨m4_0, rfl⟩
    obtain ⟨m6, rfl⟩ : ∃ q : Int, q = m6_0 := ⟨m6_0, rfl⟩
    obtain ⟨i_0, rfl⟩ : ∃ q : Int, q = i_0_0 := ⟨i_0_0, rfl⟩
    obtain ⟨T_, FN_, M_, snx_, wr_⟩ := s_
    have hN : (((((((Nat.beq FN_ 53 && Nat.beq snx_ 4) && Nat.beq t1 0) && decide (k1 = [.int .i64, .int .i64])) && Nat.beq t2 0) && decide (k2 = [.int .i64, .int .i64])) && Nat.beq t3 24) && Nat.beq t5 24) = true := by
      cases hq : ((((((((Nat.beq FN_ 53 && Nat.beq snx_ 4) && Nat.beq t1 0) && decide (k1 = [.int .i64, .int .i64])) && Nat.beq t2 0) && decide (k2 = [.int .i64, .int .i64])) && Nat.beq t3 24) && Nat.beq t5 24) : Bool) with
      | true => rfl
      | false => (rw [hq] at h_; exact h_.elim)
    rw [hN, cond_true] at h_
    simp only [Bool.and_eq_true, beq_iff, decide_eq_true_eq] at hN
    obtain ⟨⟨⟨⟨⟨⟨⟨rfl, rfl⟩, rfl⟩, rfl⟩, rfl⟩, rfl⟩, rfl⟩, rfl⟩ := hN
    obtain ⟨q0, h_⟩ := h_
    obtain rfl : m4 = (Ll.len a) := q0
    obtain ⟨q0, h_⟩ := h_
    obtain rfl : m6 = (Ll.len b) := q0
    obtain ⟨q1, h_⟩ := h_
    have q1 : i_0 = (0 : Int) := q1
    obtain ⟨q2, h_⟩ := br_pre (fs := fsv) (ov := true) h_
    have q2 : (rightB a) = true := q2
    obtain ⟨q3, h_⟩ := br_pre (fs := fsv) (ov := true) h_
    have q3 : (rightB b) = true := q3
    replace h_ : cond (decide (dnI a b (0 : Int) (1099511627776 : Int) < b.length)) (K_ .ret (hdL (bodyAt Try.prog 33 [false, true, false, true, true]) T_ (kills [] M_) 53 4 [(2, .p 2 0), (3, .p 3 0)] [(0, .list 0 [.int .i64, .int .i64] false a), (1, .list 0 [.int .i64, .int .i64] false b), (2, .row 24 [.ls false 0 (Ll.len a)]), (3, .row 24 [.ls false 1 (Ll.len b)])] [(4, .b false)] [] [] [] (addW ([] ++ []) wr_))) (K_ (.exit 2) (hdL (bodyAt Try.prog 33 [false, true, false, true, true]) T_ (kills [] M_) 53 4 [(2, .p 2 0), (3, .p 3 0)] [(0, .list 0 [.int .i64, .int .i64] false a), (1, .list 0 [.int .i64, .int .i64] false b), (2, .row 24 [.ls false 0 (Ll.len a)]), (3, .row 24 [.ls false 1 (Ll.len b)])] [(6, .i .i64 (Ll.len b))] [] [] [] (addW ([] ++ []) wr_))) := h_
    have hx1 : (decide (dnI a b (0 : Int) (1099511627776 : Int) < b.length)) = true → K_ .ret (hdL (bodyAt Try.prog 33 [false, true, false, true, true]) T_ (kills [] M_) 53 4 [(2, .p 2 0), (3, .p 3 0)] [(0, .list 0 [.int .i64, .int .i64] false a), (1, .list 0 [.int .i64, .int .i64] false b), (2, .row 24 [.ls false 0 (Ll.len a)]), (3, .row 24 [.ls false 1 (Ll.len b)])] [(4, .b false)] [] [] [] (addW ([] ++ []) wr_)) := fun e1 => by
      have h2 := h_
      rw [e1] at h2; simp only [cond_true, cond_false] at h2; exact h2
    have hx2 : (decide (dnI a b (0 : Int) (1099511627776 : Int) < b.length)) = false → K_ (.exit 2) (hdL (bodyAt Try.prog 33 [false, true, false, true, true]) T_ (kills [] M_) 53 4 [(2, .p 2 0), (3, .p 3 0)] [(0, .list 0 [.int .i64, .int .i64] false a), (1, .list 0 [.int .i64, .int .i64] false b), (2, .row 24 [.ls false 0 (Ll.len a)]), (3, .row 24 [.ls false 1 (Ll.len b)])] [(6, .i .i64 (Ll.len b))] [] [] [] (addW ([] ++ []) wr_)) := fun e1 => by
      have h2 := h_
      rw [e1] at h2; simp only [cond_true, cond_false] at h2; exact h2
    refine loop_ruleL (fs := fsv) (ov := true) (s := ⟨T_, 53, M_, 4, wr_⟩) (X := Int) (B := []) (mv := []) (kt := [(2, .p 2 0), (3, .p 3 0)]) (kr := [(0, .list 0 [.int .i64, .int .i64] false a), (1, .list 0 [.int .i64, .int .i64] false b), (2, .row 24 [.ls false 0 (Ll.len a)]), (3, .row 24 [.ls false 1 (Ll.len b)])]) (ty := []) (x := (i_0))
      (Inv := (fun x_ : Int => match x_ with | (i) => 0 ≤ i ∧ i ≤ dnI a b 0 1099511627776)) (μ := (fun x_ : Int => match x_ with | (i) => (24 - i).toNat)) (ts := tsOf [6] [4]) (sl := (fun x_ : Int => match x_ with | (i) => [.i .i64 i])) (bl := (fun x_ : Int => match x_ with | (i) => [])) (ll := (fun x_ : Int => match x_ with | (i) => [])) (Q := fun e_ vs_ os_ hs_ => K_ e_ (hdL (bodyAt Try.prog 33 [false, true, false, true, true]) T_ (kills [] M_) 53 4 [(2, .p 2 0), (3, .p 3 0)] [(0, .list 0 [.int .i64, .int .i64] false a), (1, .list 0 [.int .i64, .int .i64] false b), (2, .row 24 [.ls false 0 (Ll.len a)]), (3, .row 24 [.ls false 1 (Ll.len b)])] (((tsOf [6] [4]) e_).zip vs_) ([].zip os_) [] hs_ (addW ([] ++ []) wr_)))
      (L := LL) (U := 30) (cs := sCall Try.prog 30 (spOf spRV) noLoop 20) (call := CN Try.prog AW m_) (lp := noLoop 33) (root := c0_) (p := [false, true, false, true, true])
      (show CallSOK _ _ from by
        have := sCall_ok (P := Try.prog) (d := m_ - 20) (U := 30) (lp := noLoop) (spRV_ok (ov := true) (d := m_ - 20) (by omega)) (spRV_aw (fs := fsv) (ov := true)) (noLoop_ok) (by decide) 20
        rwa [show 20 + (m_ - 20) = m_ by omega] at this) (fun p f h => by cases h) (by decide) hc_
      (fun x o ho => by cases ho)
      (fun x hx => by cases hx) (fun x hx => by cases hx) (fun x hx => by cases hx)
      (fun x hx => by
        simp only [List.mem_cons, List.not_mem_nil, or_false] at hx
        rcases hx with rfl | rfl
        · exact g0
        · exact g1) (fun x hx => by
        simp only [List.mem_cons, List.not_mem_nil, or_false] at hx
        rcases hx with rfl | rfl | rfl | rfl
        · exact ⟨g2, by simp⟩
        · exact ⟨g3, by simp⟩
        · exact ⟨g4, by simp⟩
        · exact ⟨g5, by simp⟩) ?_ (fun _ _ _ _ _ h => h) ?_ ?_ ?_ hs_
    · rintro i hI
      exact rabb_go a b i i_0 q1 T_ (kills [] M_) _ q2 q3 hI (fun i' ha hb => ⟨(i'), ha, hb, rfl, rfl, rfl⟩) (fun e1 => ⟨by simp [SO.mine], hx1 e1⟩) (fun e1 => ⟨by simp [SO.mine], hx2 e1⟩)
    · show 0 ≤ i_0 ∧ i_0 ≤ dnI a b 0 1099511627776
      exact ⟨by omega, by rw [q1]; exact (leastN_spec _ _ 0).1⟩
    · show (24 - i_0).toNat < LL
      exact Nat.lt_of_le_of_lt (show _ ≤ 1000 by omega) (by decide)
    · exact ⟨⟨[.i .i64 i_0], [], [], [], by simp [gets, tsOf, g0, g1, g2, g3, g4, g5, g6], by simp [gets, g0, g1, g2, g3, g4, g5, g6], rfl, rfl, by simp [listsOf] <;> rfl⟩⟩
  · exact h_.elim
abbrev lpRab {A : Go.Rx.Alg} : Nat → Go.Rx.LoopS A := Go.Rx.lpOf [(33, [false, true, false, true], rabaF), (33, [false, true, false, true, true], rabbF)]
theorem lpRab_ok {d : Nat} (hd : 400 ≤ d) : LoopsAll (fs := fsv) (ov := true) Try.prog AW d lpRab := lpOf_ok fun x hx => by
  simp only [List.mem_cons, List.not_mem_nil, or_false] at hx
  rcases hx with rfl | rfl
  · exact rabaF_ok (by omega)
  · exact rabbF_ok (by omega)
theorem abv_eq (f t : Int) (a b : Ll) (KK : KS (stdA fsv true)) : sFunc Try.prog 30 (sCall Try.prog 30 (spOf spV) lpAb 20) lpAb 32 [.agg [.ls false 0 (Ll.len a)], .agg [.ls false 1 (Ll.len b)], .i .i64 f, .i .i64 t] (lsMem 0 [([.int .i64, .int .i64], a), ([.int .i64, .int .i64], b)]) 2 KK =
  ((Ll.len a) = (Ll.len a) ∧ ((Ll.len a) = (Ll.len a) ∧ ((Ll.len a) = (Ll.len a) ∧ ((Ll.len b) = (Ll.len b) ∧ ((0 : Int) = (0 : Int) ∧ (cond (rightB a)
 (cond (rightB b)
 (cond (decide (upI a b f t < a.length))
 (KK (.b false) (lsMem 0 [([.int .i64, .int .i64], a), ([.int .i64, .int .i64], b)]) 2 [])
 ((Ll.len b) = (Ll.len b) ∧ ((Ll.len b) = (Ll.len b) ∧ ((Ll.len a) = (Ll.len a) ∧ ((Ll.len b) = (Ll.len b) ∧ ((0 : Int) = (0 : Int) ∧ (cond (rightB a)
 (cond (rightB b)
 (cond (decide (dnI a b f t < b.length))
 (KK (.b false) (lsMem 0 [([.int .i64, .int .i64], a), ([.int .i64, .int .i64], b)]) 2 [])
 (KK (.b true) (lsMem 0 [([.int .i64, .int .i64], a), ([.int .i64, .int .i64], b)]) 2 []))
 False)
 False)))))))
 False)
 False)))))) := by kernel_rfl
theorem abv_pure {m : Nat} (hm : 500 ≤ m) {H : Hp} {nx : Nat} (f t : Int) {v_a : LV} {a : Ll} (hl_a : IsL H nx [.int .i64, .int .i64] a v_a) {v_b : LV} {b : Ll} (hl_b : IsL H nx [.int .i64, .int .i64] b v_b) (p1 : (rightB a) = true) (p2 : (rightB b) = true) : Pure Try.prog AW m 32 [.agg [v_a], .agg [v_b], .i .i64 f, .i .i64 t] H nx (.b (abvB a b f t)) := by
  obtain ⟨ν, n1, n2, n3, n4⟩ := ls_in (fs := fsv) (ov := true) (l := [([.int .i64, .int .i64], a), ([.int .i64, .int .i64], b)]) (lvs := [v_a, v_b]) 0 (fun i x lv e1 e2 => by
    cases i with
    | zero => simp at e1 e2; subst e1 e2; exact hl_a
    | succ i =>
      cases i with
      | zero => simp at e1 e2; subst e1 e2; exact hl_b
      | succ i =>
        simp at e1) rfl
  refine pure_of (n := 20) (d := m - 21) (U := 30) (fs := fsv) (ov := true) (spV_ok (by omega)) spV_aw (lpAb_ok (by omega)) (by decide) (by decide) (by omega) (args := [.agg [.ls false 0 (Ll.len a)], .agg [.ls false 1 (Ll.len b)], .i .i64 f, .i .i64 t]) (M := lsMem 0 [([.int .i64, .int .i64], a), ([.int .i64, .int .i64], b)]) (snx := 2) ?_ (VSL.cons ⟨_, rfl, (VSL.cons (n4 0 _ _ rfl rfl) rfl)⟩ (VSL.cons ⟨_, rfl, (VSL.cons (n4 1 _ _ rfl rfl) rfl)⟩ (VSL.cons rfl (VSL.cons rfl rfl)))) (hs_in n2 n3)
  rw [abv_eq]
  have c0 : abvB a b f t = decide (¬ upI a b f t < a.length ∧ ¬ dnI a b f t < b.length) := rfl
  rw [c0, p1, p2]
  by_cases h : upI a b f t < a.length
  · rw [decide_eq_true h, decide_eq_false (show ¬ (¬ upI a b f t < a.length ∧ ¬ dnI a b f t < b.length) from fun hc => hc.1 h)]
    repeat' (first | exact end_b rfl | apply And.intro)
    all_goals first | trivial | omega
  · by_cases h2 : dnI a b f t < b.length
    · rw [decide_eq_false h, decide_eq_true h2, decide_eq_false (show ¬ (¬ upI a b f t < a.length ∧ ¬ dnI a b f t < b.length) from fun hc => hc.2 h2)]
      repeat' (first | exact end_b rfl | apply And.intro)
      all_goals first | trivial | omega
    · rw [decide_eq_false h, decide_eq_false h2, decide_eq_true (⟨h, h2⟩ : ¬ upI a b f t < a.length ∧ ¬ dnI a b f t < b.length)]
      repeat' (first | exact end_b rfl | apply And.intro)
      all_goals first | trivial | omega
abbrev abvS {A : Go.Rx.Alg} : List (Go.Rx.SV A) → Go.Rx.SH A → Nat → Go.Rx.KS A → A.R := fun args_ M_ snx_ K_ => match args_ with
  | [.agg [x_a], .agg [x_b], .i .i64 f, .i .i64 t] => (match Go.Rx.lsArg M_ [.int .i64, .int .i64] x_a with | some (a, n_a) => (A.need .eql n_a (A.len a) (match Go.Rx.lsArg M_ [.int .i64, .int .i64] x_b with | some (b, n_b) => (A.need .eql n_b (A.len b) (A.br (A.appB 32 [a] []) (fun _ => (A.br (A.appB 32 [b] []) (fun _ => (K_ (.b (A.appB 38 [a, b] [f, t])) M_ snx_ [])) (fun _ => A.fail "pre"))) (fun _ => A.fail "pre"))) | none => A.fail "abv")) | none => A.fail "abv")
  | _ => A.fail "abv"
theorem abvS_ok {ov : Bool} {d : Nat} (hd : 500 ≤ d) : SpecOK (fs := fsv) (ov := ov) Try.prog AW d 32 abvS := by
  intro m_ hm_ args_ M_ snx_ K_ h_ ν_ largs_ H_ nx_ ha_ hM_
  unfold abvS at h_
  split at h_
  · rename_i x_a x_b f t
    obtain ⟨y1, r1, rfl, ⟨l1, rfl, ⟨v_a, r2, rfl, hx_a, rfl⟩⟩, ⟨y3, r3, rfl, ⟨l3, rfl, ⟨v_b, r4, rfl, hx_b, rfl⟩⟩, ⟨y5, r5, rfl, rfl, ⟨y6, r6, rfl, rfl, rfl⟩⟩⟩⟩ := ha_
    split at h_
    · rename_i a n_a q_a
      obtain ⟨e_a, h_⟩ := h_
      split at h_
      · rename_i b n_b q_b
        obtain ⟨e_b, h_⟩ := h_
        obtain ⟨p1, h_⟩ := br_pre (fs := fsv) (ov := ov) h_
        have p1 : (rightB a) = true := p1
        obtain ⟨p2, h_⟩ := br_pre (fs := fsv) (ov := ov) h_
        have p2 : (rightB b) = true := p2
        exact pure_got (abv_pure (by omega) f t (lsArg_ok hM_ hx_a q_a e_a) (lsArg_ok hM_ hx_b q_b e_b) p1 p2) hM_ (v := .b _) rfl h_
      · exact h_.elim
    · exact h_.elim
  · exact h_.elim
theorem rabv_eq (a b : Ll) (KK : KS (stdA fsv true)) : sFunc Try.prog 30 (sCall Try.prog 30 (spOf spRV) lpRab 20) lpRab 33 [.agg [.ls false 0 (Ll.len a)], .agg [.ls false 1 (Ll.len b)]] (lsMem 0 [([.int .i64, .int .i64], a), ([.int .i64, .int .i64], b)]) 2 KK =
  ((Ll.len a) = (Ll.len a) ∧ ((Ll.len b) = (Ll.len b) ∧ ((0 : Int) = (0 : Int) ∧ (cond (rightB a)
 (cond (rightB b)
 (cond (decide (upI a b (0 : Int) (1099511627776 : Int) < a.length))
 (KK (.b false) (lsMem 0 [([.int .i64, .int .i64], a), ([.int .i64, .int .i64], b)]) 2 [])
 ((Ll.len a) = (Ll.len a) ∧ ((Ll.len b) = (Ll.len b) ∧ ((0 : Int) = (0 : Int) ∧ (cond (rightB a)
 (cond (rightB b)
 (cond (decide (dnI a b (0 : Int) (1099511627776 : Int) < b.length))
 (KK (.b false) (lsMem 0 [([.int .i64, .int .i64], a), ([.int .i64, .int .i64], b)]) 2 [])
 (KK (.b true) (lsMem 0 [([.int .i64, .int .i64], a), ([.int .i64, .int .i64], b)]) 2 []))
 False)
 False)))))
 False)
 False)))) := by kernel_rfl
theorem rabv_pure {m : Nat} (hm : 500 ≤ m) {H : Hp} {nx : Nat} {v_a : LV} {a : Ll} (hl_a : IsL H nx [.int .i64, .int .i64] a v_a) {v_b : LV} {b : Ll} (hl_b : IsL H nx [.int .i64, .int .i64] b v_b) (p1 : (rightB a) = true) (p2 : (rightB b) = true) : Pure Try.prog AW m 33 [.agg [v_a], .agg [v_b]] H nx (.b (abvB a b (0 : Int) (1099511627776 : Int))) := by
  obtain ⟨ν, n1, n2, n3, n4⟩ := ls_in (fs := fsv) (ov := true) (l := [([.int .i64, .int .i64], a), ([.int .i64, .int .i64], b)]) (lvs := [v_a, v_b]) 0 (fun i x lv e1 e2 => by
    cases i with
    | zero => simp at e1 e2; subst e1 e2; exact hl_a
    | succ i =>
      cases i with
      | zero => simp at e1 e2; subst e1 e2; exact hl_b
      | succ i =>
        simp at e1) rfl
  refine pure_of (n := 20) (d := m - 21) (U := 30) (fs := fsv) (ov := true) (spRV_ok (by omega)) spRV_aw (lpRab_ok (by omega)) (by decide) (by decide) (by omega) (args := [.agg [.ls false 0 (Ll.len a)], .agg [.ls false 1 (Ll.len b)]]) (M := lsMem 0 [([.int .i64, .int .i64], a), ([.int .i64, .int .i64], b)]) (snx := 2) ?_ (VSL.cons ⟨_, rfl, (VSL.cons (n4 0 _ _ rfl rfl) rfl)⟩ (VSL.cons ⟨_, rfl, (VSL.cons (n4 1 _ _ rfl rfl) rfl)⟩ rfl)) (hs_in n2 n3)
  rw [rabv_eq]
  have c0 : abvB a b 0 1099511627776 = decide (¬ upI a b 0 1099511627776 < a.length ∧ ¬ dnI a b 0 1099511627776 < b.length) := rfl
  rw [c0, p1, p2]
  by_cases h : upI a b 0 1099511627776 < a.length
  · rw [decide_eq_true h, decide_eq_false (show ¬ (¬ upI a b 0 1099511627776 < a.length ∧ ¬ dnI a b 0 1099511627776 < b.length) from fun hc => hc.1 h)]
    repeat' (first | exact end_b rfl | apply And.intro)
    all_goals first | trivial | omega
  · by_cases h2 : dnI a b 0 1099511627776 < b.length
    · rw [decide_eq_false h, decide_eq_true h2, decide_eq_false (show ¬ (¬ upI a b 0 1099511627776 < a.length ∧ ¬ dnI a b 0 1099511627776 < b.length) from fun hc => hc.2 h2)]
      repeat' (first | exact end_b rfl | apply And.intro)
      all_goals first | trivial | omega
    · rw [decide_eq_false h, decide_eq_false h2, decide_eq_true (⟨h, h2⟩ : ¬ upI a b 0 1099511627776 < a.length ∧ ¬ dnI a b 0 1099511627776 < b.length)]
      repeat' (first | exact end_b rfl | apply And.intro)
      all_goals first | trivial | omega
abbrev rabvS {A : Go.Rx.Alg} : List (Go.Rx.SV A) → Go.Rx.SH A → Nat → Go.Rx.KS A → A.R := fun args_ M_ snx_ K_ => match args_ with
  | [.agg [x_a], .agg [x_b]] => (match Go.Rx.lsArg M_ [.int .i64, .int .i64] x_a with | some (a, n_a) => (A.need .eql n_a (A.len a) (match Go.Rx.lsArg M_ [.int .i64, .int .i64] x_b with | some (b, n_b) => (A.need .eql n_b (A.len b) (A.br (A.appB 32 [a] []) (fun _ => (A.br (A.appB 32 [b] []) (fun _ => (K_ (.b (A.appB 38 [a, b] [(A.lit 0), (A.lit 1099511627776)])) M_ snx_ [])) (fun _ => A.fail "pre"))) (fun _ => A.fail "pre"))) | none => A.fail "rabv")) | none => A.fail "rabv")
  | _ => A.fail "rabv"
theorem rabvS_ok {ov : Bool} {d : Nat} (hd : 500 ≤ d) : SpecOK (fs := fsv) (ov := ov) Try.prog AW d 33 rabvS := by
  intro m_ hm_ args_ M_ snx_ K_ h_ ν_ largs_ H_ nx_ ha_ hM_
  unfold rabvS at h_
  split at h_
  · rename_i x_a x_b
    obtain ⟨y1, r1, rfl, ⟨l1, rfl, ⟨v_a, r2, rfl, hx_a, rfl⟩⟩, ⟨y3, r3, rfl, ⟨l3, rfl, ⟨v_b, r4, rfl, hx_b, rfl⟩⟩, rfl⟩⟩ := ha_
    split at h_
    · rename_i a n_a q_a
      obtain ⟨e_a, h_⟩ := h_
      split at h_
      · rename_i b n_b q_b
        obtain ⟨e_b, h_⟩ := h_
        obtain ⟨p1, h_⟩ := br_pre (fs := fsv) (ov := ov) h_
        have p1 : (rightB a) = true := p1
        obtain ⟨p2, h_⟩ := br_pre (fs := fsv) (ov := ov) h_
        have p2 : (rightB b) = true := p2
        exact pure_got (rabv_pure (by omega) (lsArg_ok hM_ hx_a q_a e_a) (lsArg_ok hM_ hx_b q_b e_b) p1 p2) hM_ (v := .b _) rfl h_
      · exact h_.elim
    · exact h_.elim
  · exact h_.elim
abbrev spAb {A : Go.Rx.Alg} : Go.Rx.SpL A := [(AW, Go.Rx.awakeS), (24, rightS), (32, abvS)]
theorem spAb_ok {ov : Bool} {d : Nat} (hd : 500 ≤ d) : SpOK (fs := fsv) (ov := ov) Try.prog AW d spAb := SpOK.cons awake_ok (SpOK.cons (rightS_ok (by omega)) (SpOK.cons (abvS_ok (by omega)) SpOK.nil))
theorem spAb_aw {fs : Fs} {ov : Bool} : (spOf (A := stdA fs ov) spAb AW).isSome = true := rfl
abbrev spRab {A : Go.Rx.Alg} : Go.Rx.SpL A := [(AW, Go.Rx.awakeS), (26, rrightS), (33, rabvS)]
theorem spRab_ok {ov : Bool} {d : Nat} (hd : 500 ≤ d) : SpOK (fs := fsv) (ov := ov) Try.prog AW d spRab := SpOK.cons awake_ok (SpOK.cons (rrightS_ok (by omega)) (SpOK.cons (rabvS_ok (by omega)) SpOK.nil))
theorem spRab_aw {fs : Fs} {ov : Bool} : (spOf (A := stdA fs ov) spRab AW).isSome = true := rfl
theorem above_eq (a b : Ll) (KK : KS (stdA fsv true)) : sFunc Try.prog 30 (sCall Try.prog 30 (spOf spAb) noLoop 20) noLoop 15 [.agg [.ls false 0 (Ll.len a)], .agg [.ls false 1 (Ll.len b)]] (lsMem 0 [([.int .i64, .int .i64], a), ([.int .i64, .int .i64], b)]) 2 KK =
  ((Ll.len a) = (Ll.len a) ∧ (cond (rightB a)
 ((Ll.len b) = (Ll.len b) ∧ (cond (rightB b)
 ((Ll.len a) = (Ll.len a) ∧ ((Ll.len b) = (Ll.len b) ∧ (cond (rightB a)
 (cond (rightB b)
 (KK (.b (abvB a b (0 : Int) (1099511627776 : Int))) (lsMem 0 [([.int .i64, .int .i64], a), ([.int .i64, .int .i64], b)]) 2 [])
 False)
 False)))
 (KK (.b false) (lsMem 0 [([.int .i64, .int .i64], a), ([.int .i64, .int .i64], b)]) 2 [])))
 (KK (.b false) (lsMem 0 [([.int .i64, .int .i64], a), ([.int .i64, .int .i64], b)]) 2 []))) := by kernel_rfl
theorem above_pure {m : Nat} (hm : 600 ≤ m) {H : Hp} {nx : Nat} {v_a : LV} {a : Ll} (hl_a : IsL H nx [.int .i64, .int .i64] a v_a) {v_b : LV} {b : Ll} (hl_b : IsL H nx [.int .i64, .int .i64] b v_b) : Pure Try.prog AW m 15 [.agg [v_a], .agg [v_b]] H nx (.b (aboveB a b)) := by
  obtain ⟨ν, n1, n2, n3, n4⟩ := ls_in (fs := fsv) (ov := true) (l := [([.int .i64, .int .i64], a), ([.int .i64, .int .i64], b)]) (lvs := [v_a, v_b]) 0 (fun i x lv e1 e2 => by
    cases i with
    | zero => simp at e1 e2; subst e1 e2; exact hl_a
    | succ i =>
      cases i with
      | zero => simp at e1 e2; subst e1 e2; exact hl_b
      | succ i =>
        simp at e1) rfl
  refine pure_of (n := 20) (d := m - 21) (U := 30) (fs := fsv) (ov := true) (spAb_ok (by omega)) spAb_aw noLoop_ok (by decide) (by decide) (by omega) (args := [.agg [.ls false 0 (Ll.len a)], .agg [.ls false 1 (Ll.len b)]]) (M := lsMem 0 [([.int .i64, .int .i64], a), ([.int .i64, .int .i64], b)]) (snx := 2) ?_ (VSL.cons ⟨_, rfl, (VSL.cons (n4 0 _ _ rfl rfl) rfl)⟩ (VSL.cons ⟨_, rfl, (VSL.cons (n4 1 _ _ rfl rfl) rfl)⟩ rfl)) (hs_in n2 n3)
  rw [above_eq]
  have c0 : aboveB a b = decide (rightB a = true ∧ rightB b = true ∧ abvB a b 0 1099511627776 = true) := rfl
  rw [c0]
  cases ha : rightB a <;> cases hb : rightB b <;> cases hc : abvB a b 0 1099511627776
  all_goals
    repeat' (first | exact end_b rfl | apply And.intro)
    all_goals first | trivial | omega
abbrev aboveS {A : Go.Rx.Alg} : List (Go.Rx.SV A) → Go.Rx.SH A → Nat → Go.Rx.KS A → A.R := fun args_ M_ snx_ K_ => match args_ with
  | [.agg [x_a], .agg [x_b]] => (match Go.Rx.lsArg M_ [.int .i64, .int .i64] x_a with | some (a, n_a) => (A.need .eql n_a (A.len a) (match Go.Rx.lsArg M_ [.int .i64, .int .i64] x_b with | some (b, n_b) => (A.need .eql n_b (A.len b) (K_ (.b (A.appB 37 [a, b] [])) M_ snx_ [])) | none => A.fail "above")) | none => A.fail "above")
  | _ => A.fail "above"
theorem aboveS_ok {ov : Bool} {d : Nat} (hd : 600 ≤ d) : SpecOK (fs := fsv) (ov := ov) Try.prog AW d 15 aboveS := by
  intro m_ hm_ args_ M_ snx_ K_ h_ ν_ largs_ H_ nx_ ha_ hM_
  unfold aboveS at h_
  split at h_
  · rename_i x_a x_b
    obtain ⟨y1, r1, rfl, ⟨l1, rfl, ⟨v_a, r2, rfl, hx_a, rfl⟩⟩, ⟨y3, r3, rfl, ⟨l3, rfl, ⟨v_b, r4, rfl, hx_b, rfl⟩⟩, rfl⟩⟩ := ha_
    split at h_
    · rename_i a n_a q_a
      obtain ⟨e_a, h_⟩ := h_
      split at h_
      · rename_i b n_b q_b
        obtain ⟨e_b, h_⟩ := h_
        exact pure_got (above_pure (by omega) (lsArg_ok hM_ hx_a q_a e_a) (lsArg_ok hM_ hx_b q_b e_b)) hM_ (v := .b _) rfl h_
      · exact h_.elim
    · exact h_.elim
  · exact h_.elim
theorem rabove_eq (a b : Ll) (KK : KS (stdA fsv true)) : sFunc Try.prog 30 (sCall Try.prog 30 (spOf spRab) noLoop 20) noLoop 16 [.agg [.ls false 0 (Ll.len a)], .agg [.ls false 1 (Ll.len b)]] (lsMem 0 [([.int .i64, .int .i64], a), ([.int .i64, .int .i64], b)]) 2 KK =
  ((Ll.len a) = (Ll.len a) ∧ (cond (rightB a)
 ((Ll.len b) = (Ll.len b) ∧ (cond (rightB b)
 ((Ll.len a) = (Ll.len a) ∧ ((Ll.len b) = (Ll.len b) ∧ (cond (rightB a)
 (cond (rightB b)
 (KK (.b (abvB a b (0 : Int) (1099511627776 : Int))) (lsMem 0 [([.int .i64, .int .i64], a), ([.int .i64, .int .i64], b)]) 2 [])
 False)
 False)))
 (KK (.b false) (lsMem 0 [([.int .i64, .int .i64], a), ([.int .i64, .int .i64], b)]) 2 [])))
 (KK (.b false) (lsMem 0 [([.int .i64, .int .i64], a), ([.int .i64, .int .i64], b)]) 2 []))) := by kernel_rfl
theorem rabove_pure {m : Nat} (hm : 600 ≤ m) {H : Hp} {nx : Nat} {v_a : LV} {a : Ll} (hl_a : IsL H nx [.int .i64, .int .i64] a v_a) {v_b : LV} {b : Ll} (hl_b : IsL H nx [.int .i64, .int .i64] b v_b) : Pure Try.prog AW m 16 [.agg [v_a], .agg [v_b]] H nx (.b (aboveB a b)) := by
  obtain ⟨ν, n1, n2, n3, n4⟩ := ls_in (fs := fsv) (ov := true) (l := [([.int .i64, .int .i64], a), ([.int .i64, .int .i64], b)]) (lvs := [v_a, v_b]) 0 (fun i x lv e1 e2 => by
    cases i with
    | zero => simp at e1 e2; subst e1 e2; exact hl_a
    | succ i =>
      cases i with
      | zero => simp at e1 e2; subst e1 e2; exact hl_b
      | succ i =>
        simp at e1) rfl
  refine pure_of (n := 20) (d := m - 21) (U := 30) (fs := fsv) (ov := true) (spRab_ok (by omega)) spRab_aw noLoop_ok (by decide) (by decide) (by omega) (args := [.agg [.ls false 0 (Ll.len a)], .agg [.ls false 1 (Ll.len b)]]) (M := lsMem 0 [([.int .i64, .int .i64], a), ([.int .i64, .int .i64], b)]) (snx := 2) ?_ (VSL.cons ⟨_, rfl, (VSL.cons (n4 0 _ _ rfl rfl) rfl)⟩ (VSL.cons ⟨_, rfl, (VSL.cons (n4 1 _ _ rfl rfl) rfl)⟩ rfl)) (hs_in n2 n3)
  rw [rabove_eq]
  have c0 : aboveB a b = decide (rightB a = true ∧ rightB b = true ∧ abvB a b 0 1099511627776 = true) := rfl
  rw [c0]
  cases ha : rightB a <;> cases hb : rightB b <;> cases hc : abvB a b 0 1099511627776
  all_goals
    repeat' (first | exact end_b rfl | apply And.intro)
    all_goals first | trivial | omega
abbrev raboveS {A : Go.Rx.Alg} : List (Go.Rx.SV A) → Go.Rx.SH A → Nat → Go.Rx.KS A → A.R := fun args_ M_ snx_ K_ => match args_ with
  | [.agg [x_a], .agg [x_b]] => (match Go.Rx.lsArg M_ [.int .i64, .int .i64] x_a with | some (a, n_a) => (A.need .eql n_a (A.len a) (match Go.Rx.lsArg M_ [.int .i64, .int .i64] x_b with | some (b, n_b) => (A.need .eql n_b (A.len b) (K_ (.b (A.appB 37 [a, b] [])) M_ snx_ [])) | none => A.fail "rabove")) | none => A.fail "rabove")
  | _ => A.fail "rabove"
theorem raboveS_ok {ov : Bool} {d : Nat} (hd : 600 ≤ d) : SpecOK (fs := fsv) (ov := ov) Try.prog AW d 16 raboveS := by
  intro m_ hm_ args_ M_ snx_ K_ h_ ν_ largs_ H_ nx_ ha_ hM_
  unfold raboveS at h_
  split at h_
  · rename_i x_a x_b
    obtain ⟨y1, r1, rfl, ⟨l1, rfl, ⟨v_a, r2, rfl, hx_a, rfl⟩⟩, ⟨y3, r3, rfl, ⟨l3, rfl, ⟨v_b, r4, rfl, hx_b, rfl⟩⟩, rfl⟩⟩ := ha_
    split at h_
    · rename_i a n_a q_a
      obtain ⟨e_a, h_⟩ := h_
      split at h_
      · rename_i b n_b q_b
        obtain ⟨e_b, h_⟩ := h_
        exact pure_got (rabove_pure (by omega) (lsArg_ok hM_ hx_a q_a e_a) (lsArg_ok hM_ hx_b q_b e_b)) hM_ (v := .b _) rfl h_
      · exact h_.elim
    · exact h_.elim
  · exact h_.elim
end Go.Proofs.Ytjemcdjigeijbaa
