/-
  Layer 2: the least and the greatest values, the program's side.
-/
import Derived.Test.YtjemcdjigeijbaaVc
set_option linter.unusedSimpArgs false
set_option linter.unusedVariables false
set_option maxRecDepth 100000
namespace Go.Proofs.Ytjemcdjigeijbaa
open Go Go.Rx

theorem exl_eq (f t i z1 z2 : Int) (l : Ll) (T : Al (SV (stdA fsv true))) (M : Al (SO (stdA fsv true))) (KK : Ex → List (SV (stdA fsv true)) → List (SO (stdA fsv true)) → List Ll → Prop) : sCode Try.prog (sCall Try.prog 30 (spOf sp0) noLoop 20) (noLoop 28) 30 (false :: [false, true, false, true, true, true, true, true]) (bodyAt Try.prog 28 [false, true, false, true, true, true, true, true]) (hdL (bodyAt Try.prog 28 [false, true, false, true, true, true, true, true]) T M 57 8 [(32, .ls false 0 (Ll.len l)), (33, .i .i64 (Ll.len l)), (1, .i .i64 f), (2, .i .i64 t), (10, .fn 45 [] [.p 4 0, .p 6 0])] [(0, .list 0 [.int .i64, .int .i64] false l), (4, .row 41 [.fn 29 [] []])] [(34, .i .i64 i)] [(6, .row 29 [.i .i64 z1, .i .i64 z2])] [] [] []) (outL 8 (tsOf [34] []) [6] [] [] KK) =
  (cond (decide (i < (Ll.len l)))
 ((0 : Int) ≤ i ∧ (i < (Ll.len l) ∧ (i < (Ll.len l) ∧ (cond (decide (f < (Ll.get l i 0)))
 (cond (decide ((Ll.get l i 0) < t))
 (InK .i64 (i + (1 : Int)) ∧ (KK .normal [(.i .i64 (i + (1 : Int)))] [(.row 29 [(.i .i64 (minL z1 (Ll.get l i 1))), (.i .i64 (minL z2 (Ll.get l i 1)))])] []))
 (InK .i64 (i + (1 : Int)) ∧ (KK .normal [(.i .i64 (i + (1 : Int)))] [(.row 29 [(.i .i64 z1), (.i .i64 z2)])] [])))
 (InK .i64 (i + (1 : Int)) ∧ (KK .normal [(.i .i64 (i + (1 : Int)))] [(.row 29 [(.i .i64 z1), (.i .i64 z2)])] []))))))
 (KK (.exit 0) [(.i .i64 i)] [(.row 29 [(.i .i64 z1), (.i .i64 z2)])] [])) := by kernel_rfl
theorem exl_go (f : Int) (t : Int) (l : Ll) (i : Int) (z1 : Int) (z2 : Int) (i_0 : Int) (z1_0 : Int) (z2_0 : Int) (r1 : i_0 = (0 : Int)) (r2 : z1_0 = (minL (valLo l f) (valLo l t))) (r3 : z2_0 = (minL (valHi l f) (valHi l t))) (T : Al (SV (stdA fsv true))) (M : Al (SO (stdA fsv true))) (KK : Ex → List (SV (stdA fsv true)) → List (SO (stdA fsv true)) → List Ll → Prop) (p1 : (Ll.len l) ≤ (24 : Int)) (hI : 0 ≤ i ∧ i ≤ Ll.len l ∧ z1 = foldV minL l f t (minL (valLo l f) (valLo l t)) i.toNat ∧ z2 = foldV minL l f t (minL (valHi l f) (valHi l t)) i.toNat) (hn : ∀ (i' : Int) (z1' : Int) (z2' : Int), 0 ≤ i' ∧ i' ≤ Ll.len l ∧ z1' = foldV minL l f t (minL (valLo l f) (valLo l t)) i'.toNat ∧ z2' = foldV minL l f t (minL (valHi l f) (valHi l t)) i'.toNat → (24 - i').toNat < (24 - i).toNat → KK .normal [.i .i64 i'] [.row 29 [.i .i64 z1', .i .i64 z2']] []) (hx1 : KK (.exit 0) [.i .i64 (Ll.len l)] [.row 29 [.i .i64 (leLo l f t), .i .i64 (leHi l f t)]] []) :
    sCode Try.prog (sCall Try.prog 30 (spOf sp0) noLoop 20) (noLoop 28) 30 (false :: [false, true, false, true, true, true, true, true]) (bodyAt Try.prog 28 [false, true, false, true, true, true, true, true]) (hdL (bodyAt Try.prog 28 [false, true, false, true, true, true, true, true]) T M 57 8 [(32, .ls false 0 (Ll.len l)), (33, .i .i64 (Ll.len l)), (1, .i .i64 f), (2, .i .i64 t), (10, .fn 45 [] [.p 4 0, .p 6 0])] [(0, .list 0 [.int .i64, .int .i64] false l), (4, .row 41 [.fn 29 [] []])] [(34, .i .i64 i)] [(6, .row 29 [.i .i64 z1, .i .i64 z2])] [] [] []) (outL 8 (tsOf [34] []) [6] [] [] KK) := by
  refine Eq.mpr (exl_eq f t i z1 z2 l T M KK) ?_
  have hl : Ll.len l = (l.length : Int) := rfl
  obtain ⟨i0, i1, rfl, rfl⟩ := hI
  by_cases h : i < Ll.len l
  · have s0 := foldV_succ minL l f t (minL (valLo l f) (valLo l t)) i0
    have s1 := foldV_succ minL l f t (minL (valHi l f) (valHi l t)) i0
    have hn' := hn (i + 1) _ _ ⟨by omega, by omega, rfl, rfl⟩ (by omega)
    rw [s0, s1] at hn'
    have e : insB l f t i = decide (f < Ll.get l i 0 ∧ Ll.get l i 0 < t) := rfl
    rw [e] at hn'
    rw [decide_eq_true h]
    clear hn hx1 s0 s1
    by_cases hb : f < Ll.get l i 0 ∧ Ll.get l i 0 < t
    · rw [decide_eq_true hb] at hn'
      rw [decide_eq_true hb.1, decide_eq_true hb.2]
      repeat' (first | exact hn' | apply And.intro)
      all_goals first | trivial | omega | (rw [InK64]; omega)
    · rw [decide_eq_false hb] at hn'
      have hb2 : decide (f < Ll.get l i 0) = false ∨ (decide (f < Ll.get l i 0) = true ∧ decide (Ll.get l i 0 < t) = false) := by
        by_cases h1 : f < Ll.get l i 0
        · exact .inr ⟨decide_eq_true h1, decide_eq_false fun h2 => hb ⟨h1, h2⟩⟩
        · exact .inl (decide_eq_false h1)
      rcases hb2 with h1 | ⟨h1, h2⟩
      · rw [h1]
        repeat' (first | exact hn' | apply And.intro)
        all_goals first | trivial | omega | (rw [InK64]; omega)
      · rw [h1, h2]
        repeat' (first | exact hn' | apply And.intro)
        all_goals first | trivial | omega | (rw [InK64]; omega)
  · rw [decide_eq_false h]
    obtain rfl : i = Ll.len l := by omega
    exact hx1
abbrev exlF {A : Go.Rx.Alg} : Code → Go.Rx.SS A → (Go.Rx.Ex → Go.Rx.SS A → A.R) → A.R := fun c_ s_ K_ => match s_.T.get 32, s_.T.get 33, s_.T.get 1, s_.T.get 2, s_.T.get 10, s_.H.get 0, s_.H.get 4, s_.T.get 34, s_.H.get 6 with
  | some (.ls false 0 m1), some (.i .i64 m2), some (.i .i64 f), some (.i .i64 t), some (.fn f3 [] [.p 4 0, .p 6 0]), some (.list t4 k4 false l), some (.row t5 [.fn 29 [] []]), some (.i .i64 i), some (.row t6 [.i .i64 z1, .i .i64 z2]) => bif ((((((Nat.beq s_.N 57 && Nat.beq s_.nx 8) && Nat.beq f3 45) && Nat.beq t4 0) && decide (k4 = [.int .i64, .int .i64])) && Nat.beq t5 41) && Nat.beq t6 29) then (A.need .eql m1 (A.len l) (A.need .eql m2 (A.len l) (A.need .eql i (A.lit 0) (A.need .eql z1 (A.app 27 [] [(A.app 4 [l] [f]), (A.app 4 [l] [t])]) (A.need .eql z2 (A.app 27 [] [(A.app 5 [l] [f]), (A.app 5 [l] [t])]) (A.need .leq (A.len l) (A.lit 24) (K_ (.exit 0) (Go.Rx.hdL c_ s_.T (Go.Rx.kills [] s_.H) 57 8 [(32, .ls false 0 (A.len l)), (33, .i .i64 (A.len l)), (1, .i .i64 f), (2, .i .i64 t), (10, .fn 45 [] [.p 4 0, .p 6 0])] [(0, .list 0 [.int .i64, .int .i64] false l), (4, .row 41 [.fn 29 [] []])] [(34, .i .i64 (A.len l))] [(6, .row 29 [.i .i64 (A.app 19 [l] [f, t]), .i .i64 (A.app 20 [l] [f, t])])] [] [] (Go.Rx.addW ([] ++ [6]) s_.wr))))))))) else A.fail "frame of exl"
  | _, _, _, _, _, _, _, _, _ => A.fail "exl"
theorem exlF_ok {d : Nat} (hd : 100 ≤ d) : LoopOK (fs := fsv) (ov := true) Try.prog AW d 28 [false, true, false, true, true, true, true, true] exlF := by
  intro m_ hm_ fn_ c0_ hfn_ hb_ c_ ro_ hc_ s_ K_ W_ ν_ S_ h_ hs_
  obtain rfl := body_of hfn_ hb_ hc_
  unfold exlF at h_
  split at h_
  · rename_i m1_0 m2_0 f_0 t_0 f3 t4 k4 l_0 t5 i_0_0 t6 z1_0_0 z2_0_0 g0 g1 g2 g3 g4 g5 g6 g7 g8
    obtain ⟨m1, rfl⟩ : ∃ q : Int, q = m1_0 := ⟨m1_0, rfl⟩
    obtain ⟨m2, rfl⟩ : ∃ q : Int, q = m2_0 := ⟨m2_0, rfl⟩
    obtain ⟨f, rfl⟩ : ∃ q : Int, q = f_0 := ⟨f_0, rfl⟩
    obtain ⟨t, rfl⟩ : ∃ q : Int, q = t_0 := ⟨t_0, rfl⟩
    obtain ⟨l, rfl⟩ : ∃ q : Ll, q = l_0 := ⟨l_0, rfl⟩
    obtain ⟨i_0, rfl⟩ : ∃ q : Int, q = i_0_0 := ⟨i_0_0, rfl⟩
    obtain ⟨z1_0, rfl⟩ : ∃ q : Int, q = z1_0_0 := ⟨z1_0_0, rfl⟩
    obtain ⟨z2_0, rfl⟩ : ∃ q : Int, q = z2_0_0 := ⟨z2_0_0, rfl⟩
    obtain ⟨T_, FN_, M_, snx_, wr_⟩ := s_
    have hN : ((((((Nat.beq FN_ 57 && Nat.beq snx_ 8) && Nat.beq f3 45) && Nat.beq t4 0) && decide (k4 = [.int .i64, .int .i64])) && Nat.beq t5 41) && Nat.beq t6 29) = true := by
      cases hq : (((((((Nat.beq FN_ 57 && Nat.beq snx_ 8) && Nat.beq f3 45) && Nat.beq t4 0) && decide (k4 = [.int .i64, .int .i64])) && Nat.beq t5 41) && Nat.beq t6 29) : Bool) with
      | true => rfl
      | false => (rw [hq] at h_; exact h_.elim)
    rw [hN, cond_true] at h_
    simp only [Bool.and_eq_true, beq_iff, decide_eq_true_eq] at hN
    obtain ⟨⟨⟨⟨⟨⟨rfl, rfl⟩, rfl⟩, rfl⟩, rfl⟩, rfl⟩, rfl⟩ := hN
    obtain ⟨q0, h_⟩ := h_
    obtain rfl : m1 = (Ll.len l) := q0
    obtain ⟨q0, h_⟩ := h_
    obtain rfl : m2 = (Ll.len l) := q0
    obtain ⟨q1, h_⟩ := h_
    have q1 : i_0 = (0 : Int) := q1
    obtain ⟨q2, h_⟩ := h_
    have q2 : z1_0 = (minL (valLo l f) (valLo l t)) := q2
    obtain ⟨q3, h_⟩ := h_
    have q3 : z2_0 = (minL (valHi l f) (valHi l t)) := q3
    obtain ⟨q4, h_⟩ := h_
    have q4 : (Ll.len l) ≤ (24 : Int) := q4
    replace h_ : K_ (.exit 0) (hdL (bodyAt Try.prog 28 [false, true, false, true, true, true, true, true]) T_ (kills [] M_) 57 8 [(32, .ls false 0 (Ll.len l)), (33, .i .i64 (Ll.len l)), (1, .i .i64 f), (2, .i .i64 t), (10, .fn 45 [] [.p 4 0, .p 6 0])] [(0, .list 0 [.int .i64, .int .i64] false l), (4, .row 41 [.fn 29 [] []])] [(34, .i .i64 (Ll.len l))] [(6, .row 29 [.i .i64 (leLo l f t), .i .i64 (leHi l f t)])] [] [] (addW ([] ++ [6]) wr_)) := h_
    have hx1 : K_ (.exit 0) (hdL (bodyAt Try.prog 28 [false, true, false, true, true, true, true, true]) T_ (kills [] M_) 57 8 [(32, .ls false 0 (Ll.len l)), (33, .i .i64 (Ll.len l)), (1, .i .i64 f), (2, .i .i64 t), (10, .fn 45 [] [.p 4 0, .p 6 0])] [(0, .list 0 [.int .i64, .int .i64] false l), (4, .row 41 [.fn 29 [] []])] [(34, .i .i64 (Ll.len l))] [(6, .row 29 [.i .i64 (leLo l f t), .i .i64 (leHi l f t)])] [] [] (addW ([] ++ [6]) wr_)) := by
      have h2 := h_
      exact h2
    refine loop_ruleL (fs := fsv) (ov := true) (s := ⟨T_, 57, M_, 8, wr_⟩) (X := Int × Int × Int) (B := [6]) (mv := []) (kt := [(32, .ls false 0 (Ll.len l)), (33, .i .i64 (Ll.len l)), (1, .i .i64 f), (2, .i .i64 t), (10, .fn 45 [] [.p 4 0, .p 6 0])]) (kr := [(0, .list 0 [.int .i64, .int .i64] false l), (4, .row 41 [.fn 29 [] []])]) (ty := []) (x := (i_0, z1_0, z2_0))
      (Inv := (fun x_ : Int × Int × Int => match x_ with | (i, z1, z2) => 0 ≤ i ∧ i ≤ Ll.len l ∧ z1 = foldV minL l f t (minL (valLo l f) (valLo l t)) i.toNat ∧ z2 = foldV minL l f t (minL (valHi l f) (valHi l t)) i.toNat)) (μ := (fun x_ : Int × Int × Int => match x_ with | (i, z1, z2) => (24 - i).toNat)) (ts := tsOf [34] []) (sl := (fun x_ : Int × Int × Int => match x_ with | (i, z1, z2) => [.i .i64 i])) (bl := (fun x_ : Int × Int × Int => match x_ with | (i, z1, z2) => [.row 29 [.i .i64 z1, .i .i64 z2]])) (ll := (fun x_ : Int × Int × Int => match x_ with | (i, z1, z2) => [])) (Q := fun e_ vs_ os_ hs_ => K_ e_ (hdL (bodyAt Try.prog 28 [false, true, false, true, true, true, true, true]) T_ (kills [] M_) 57 8 [(32, .ls false 0 (Ll.len l)), (33, .i .i64 (Ll.len l)), (1, .i .i64 f), (2, .i .i64 t), (10, .fn 45 [] [.p 4 0, .p 6 0])] [(0, .list 0 [.int .i64, .int .i64] false l), (4, .row 41 [.fn 29 [] []])] (((tsOf [34] []) e_).zip vs_) ([6].zip os_) [] hs_ (addW ([] ++ [6]) wr_)))
      (L := LL) (U := 30) (cs := sCall Try.prog 30 (spOf sp0) noLoop 20) (call := CN Try.prog AW m_) (lp := noLoop 28) (root := c0_) (p := [false, true, false, true, true, true, true, true])
      (show CallSOK _ _ from by
        have := sCall_ok (P := Try.prog) (d := m_ - 20) (U := 30) (lp := noLoop) (sp0_ok (fs := fsv) (ov := true) (d := m_ - 20)) (sp0_aw (fs := fsv) (ov := true)) (noLoop_ok) (by decide) 20
        rwa [show 20 + (m_ - 20) = m_ by omega] at this) (fun p f h => by cases h) (by decide) hc_
      (by
        rintro ⟨i, z1, z2⟩ o ho
        simp only [List.mem_cons, List.not_mem_nil, or_false] at ho
        rcases ho with rfl
        · rfl)
      (fun x hx => by
        simp only [List.mem_cons, List.not_mem_nil, or_false] at hx
        rcases hx with rfl
        · exact ⟨_, g8, rfl⟩) (fun x hx => by cases hx) (fun x hx => by
        simp only [List.mem_cons, List.not_mem_nil, or_false] at hx
        rcases hx with rfl
        · simp)
      (fun x hx => by
        simp only [List.mem_cons, List.not_mem_nil, or_false] at hx
        rcases hx with rfl | rfl | rfl | rfl | rfl
        · exact g0
        · exact g1
        · exact g2
        · exact g3
        · exact g4) (fun x hx => by
        simp only [List.mem_cons, List.not_mem_nil, or_false] at hx
        rcases hx with rfl | rfl
        · exact ⟨g5, by simp⟩
        · exact ⟨g6, by simp⟩) ?_ (fun _ _ _ _ _ h => h) ?_ ?_ ?_ hs_
    · rintro ⟨i, z1, z2⟩ hI
      exact exl_go f t l i z1 z2 i_0 z1_0 z2_0 q1 q2 q3 T_ (kills [] M_) _ q4 hI (fun i' z1' z2' ha hb => ⟨(i', z1', z2'), ha, hb, rfl, rfl, rfl⟩) (⟨by simp [SO.mine], hx1⟩)
    · show 0 ≤ i_0 ∧ i_0 ≤ Ll.len l ∧ z1_0 = foldV minL l f t (minL (valLo l f) (valLo l t)) i_0.toNat ∧ z2_0 = foldV minL l f t (minL (valHi l f) (valHi l t)) i_0.toNat
      exact ⟨by omega, by have : (0 : Int) ≤ Ll.len l := Int.natCast_nonneg _; omega, by rw [q2, q1]; rfl, by rw [q3, q1]; rfl⟩
    · show (24 - i_0).toNat < LL
      exact Nat.lt_of_le_of_lt (show _ ≤ 1000 by omega) (by decide)
    · exact ⟨⟨[.i .i64 i_0], [.row 29 [.i .i64 z1_0, .i .i64 z2_0]], [], [], by simp [gets, tsOf, g0, g1, g2, g3, g4, g5, g6, g7, g8], by simp [gets, g0, g1, g2, g3, g4, g5, g6, g7, g8], rfl, rfl, by simp [listsOf] <;> rfl⟩⟩
  · exact h_.elim
theorem exm_eq (f t i z1 z2 : Int) (l : Ll) (T : Al (SV (stdA fsv true))) (M : Al (SO (stdA fsv true))) (KK : Ex → List (SV (stdA fsv true)) → List (SO (stdA fsv true)) → List Ll → Prop) : sCode Try.prog (sCall Try.prog 30 (spOf sp0) noLoop 20) (noLoop 28) 30 (false :: [false, true, false, true, true, true, true, true]) (bodyAt Try.prog 28 [false, true, false, true, true, true, true, true]) (hdL (bodyAt Try.prog 28 [false, true, false, true, true, true, true, true]) T M 57 8 [(32, .ls false 0 (Ll.len l)), (33, .i .i64 (Ll.len l)), (1, .i .i64 f), (2, .i .i64 t), (10, .fn 45 [] [.p 4 0, .p 6 0])] [(0, .list 0 [.int .i64, .int .i64] false l), (4, .row 41 [.fn 31 [] []])] [(34, .i .i64 i)] [(6, .row 29 [.i .i64 z1, .i .i64 z2])] [] [] []) (outL 8 (tsOf [34] []) [6] [] [] KK) =
  (cond (decide (i < (Ll.len l)))
 ((0 : Int) ≤ i ∧ (i < (Ll.len l) ∧ (i < (Ll.len l) ∧ (cond (decide (f < (Ll.get l i 0)))
 (cond (decide ((Ll.get l i 0) < t))
 (InK .i64 (i + (1 : Int)) ∧ (KK .normal [(.i .i64 (i + (1 : Int)))] [(.row 29 [(.i .i64 (maxL z1 (Ll.get l i 1))), (.i .i64 (maxL z2 (Ll.get l i 1)))])] []))
 (InK .i64 (i + (1 : Int)) ∧ (KK .normal [(.i .i64 (i + (1 : Int)))] [(.row 29 [(.i .i64 z1), (.i .i64 z2)])] [])))
 (InK .i64 (i + (1 : Int)) ∧ (KK .normal [(.i .i64 (i + (1 : Int)))] [(.row 29 [(.i .i64 z1), (.i .i64 z2)])] []))))))
 (KK (.exit 0) [(.i .i64 i)] [(.row 29 [(.i .i64 z1), (.i .i64 z2)])] [])) := by kernel_rfl
theorem exm_go (f : Int) (t : Int) (l : Ll) (i : Int) (z1 : Int) (z2 : Int) (i_0 : Int) (z1_0 : Int) (z2_0 : Int) (r1 : i_0 = (0 : Int)) (r2 : z1_0 = (maxL (valLo l f) (valLo l t))) (r3 : z2_0 = (maxL (valHi l f) (valHi l t))) (T : Al (SV (stdA fsv true))) (M : Al (SO (stdA fsv true))) (KK : Ex → List (SV (stdA fsv true)) → List (SO (stdA fsv true)) → List Ll → Prop) (p1 : (Ll.len l) ≤ (24 : Int)) (hI : 0 ≤ i ∧ i ≤ Ll.len l ∧ z1 = foldV maxL l f t (maxL (valLo l f) (valLo l t)) i.toNat ∧ z2 = foldV maxL l f t (maxL (valHi l f) (valHi l t)) i.toNat) (hn : ∀ (i' : Int) (z1' : Int) (z2' : Int), 0 ≤ i' ∧ i' ≤ Ll.len l ∧ z1' = foldV maxL l f t (maxL (valLo l f) (valLo l t)) i'.toNat ∧ z2' = foldV maxL l f t (maxL (valHi l f) (valHi l t)) i'.toNat → (24 - i').toNat < (24 - i).toNat → KK .normal [.i .i64 i'] [.row 29 [.i .i64 z1', .i .i64 z2']] []) (hx1 : KK (.exit 0) [.i .i64 (Ll.len l)] [.row 29 [.i .i64 (moLo l f t), .i .i64 (moHi l f t)]] []) :
    sCode Try.prog (sCall Try.prog 30 (spOf sp0) noLoop 20) (noLoop 28) 30 (false :: [false, true, false, true, true, true, true, true]) (bodyAt Try.prog 28 [false, true, false, true, true, true, true, true]) (hdL (bodyAt Try.prog 28 [false, true, false, true, true, true, true, true]) T M 57 8 [(32, .ls false 0 (Ll.len l)), (33, .i .i64 (Ll.len l)), (1, .i .i64 f), (2, .i .i64 t), (10, .fn 45 [] [.p 4 0, .p 6 0])] [(0, .list 0 [.int .i64, .int .i64] false l), (4, .row 41 [.fn 31 [] []])] [(34, .i .i64 i)] [(6, .row 29 [.i .i64 z1, .i .i64 z2])] [] [] []) (outL 8 (tsOf [34] []) [6] [] [] KK) := by
  refine Eq.mpr (exm_eq f t i z1 z2 l T M KK) ?_
  have hl : Ll.len l = (l.length : Int) := rfl
  obtain ⟨i0, i1, rfl, rfl⟩ := hI
  by_cases h : i < Ll.len l
  · have s0 := foldV_succ maxL l f t (maxL (valLo l f) (valLo l t)) i0
    have s1 := foldV_succ maxL l f t (maxL (valHi l f) (valHi l t)) i0
    have hn' := hn (i + 1) _ _ ⟨by omega, by omega, rfl, rfl⟩ (by omega)
    rw [s0, s1] at hn'
    have e : insB l f t i = decide (f < Ll.get l i 0 ∧ Ll.get l i 0 < t) := rfl
    rw [e] at hn'
    rw [decide_eq_true h]
    clear hn hx1 s0 s1
    by_cases hb : f < Ll.get l i 0 ∧ Ll.get l i 0 < t
    · rw [decide_eq_true hb] at hn'
      rw [decide_eq_true hb.1, decide_eq_true hb.2]
      repeat' (first | exact hn' | apply And.intro)
      all_goals first | trivial | omega | (rw [InK64]; omega)
    · rw [decide_eq_false hb] at hn'
      have hb2 : decide (f < Ll.get l i 0) = false ∨ (decide (f < Ll.get l i 0) = true ∧ decide (Ll.get l i 0 < t) = false) := by
        by_cases h1 : f < Ll.get l i 0
        · exact .inr ⟨decide_eq_true h1, decide_eq_false fun h2 => hb ⟨h1, h2⟩⟩
        · exact .inl (decide_eq_false h1)
      rcases hb2 with h1 | ⟨h1, h2⟩
      · rw [h1]
        repeat' (first | exact hn' | apply And.intro)
        all_goals first | trivial | omega | (rw [InK64]; omega)
      · rw [h1, h2]
        repeat' (first | exact hn' | apply And.intro)
        all_goals first | trivial | omega | (rw [InK64]; omega)
  · rw [decide_eq_false h]
    obtain rfl : i = Ll.len l := by omega
    exact hx1
abbrev exmF {A : Go.Rx.Alg} : Code → Go.Rx.SS A → (Go.Rx.Ex → Go.Rx.SS A → A.R) → A.R := fun c_ s_ K_ => match s_.T.get 32, s_.T.get 33, s_.T.get 1, s_.T.get 2, s_.T.get 10, s_.H.get 0, s_.H.get 4, s_.T.get 34, s_.H.get 6 with
  | some (.ls false 0 m1), some (.i .i64 m2), some (.i .i64 f), some (.i .i64 t), some (.fn f3 [] [.p 4 0, .p 6 0]), some (.list t4 k4 false l), some (.row t5 [.fn 31 [] []]), some (.i .i64 i), some (.row t6 [.i .i64 z1, .i .i64 z2]) => bif ((((((Nat.beq s_.N 57 && Nat.beq s_.nx 8) && Nat.beq f3 45) && Nat.beq t4 0) && decide (k4 = [.int .i64, .int .i64])) && Nat.beq t5 41) && Nat.beq t6 29) then (A.need .eql m1 (A.len l) (A.need .eql m2 (A.len l) (A.need .eql i (A.lit 0) (A.need .eql z1 (A.app 28 [] [(A.app 4 [l] [f]), (A.app 4 [l] [t])]) (A.need .eql z2 (A.app 28 [] [(A.app 5 [l] [f]), (A.app 5 [l] [t])]) (A.need .leq (A.len l) (A.lit 24) (K_ (.exit 0) (Go.Rx.hdL c_ s_.T (Go.Rx.kills [] s_.H) 57 8 [(32, .ls false 0 (A.len l)), (33, .i .i64 (A.len l)), (1, .i .i64 f), (2, .i .i64 t), (10, .fn 45 [] [.p 4 0, .p 6 0])] [(0, .list 0 [.int .i64, .int .i64] false l), (4, .row 41 [.fn 31 [] []])] [(34, .i .i64 (A.len l))] [(6, .row 29 [.i .i64 (A.app 21 [l] [f, t]), .i .i64 (A.app 22 [l] [f, t])])] [] [] (Go.Rx.addW ([] ++ [6]) s_.wr))))))))) else A.fail "frame of exm"
  | _, _, _, _, _, _, _, _, _ => A.fail "exm"
theorem exmF_ok {d : Nat} (hd : 100 ≤ d) : LoopOK (fs := fsv) (ov := true) Try.prog AW d 28 [false, true, false, true, true, true, true, true] exmF := by
  intro m_ hm_ fn_ c0_ hfn_ hb_ c_ ro_ hc_ s_ K_ W_ ν_ S_ h_ hs_
  obtain rfl := body_of hfn_ hb_ hc_
  unfold exmF at h_
  split at h_
  · rename_i m1_0 m2_0 f_0 t_0 f3 t4 k4 l_0 t5 i_0_0 t6 z1_0_0 z2_0_0 g0 g1 g2 g3 g4 g5 g6 g7 g8
    obtain ⟨m1, rfl⟩ : ∃ q : Int, q = m1_0 := ⟨m1_0, rfl⟩
    obtain ⟨m2, rfl⟩ : ∃ q : Int, q = m2_0 := ⟨m2_0, rfl⟩
    obtain ⟨f, rfl⟩ : ∃ q : Int, q = f_0 := ⟨f_0, rfl⟩
    obtain ⟨t, rfl⟩ : ∃ q : Int, q = t_0 := ⟨t_0, rfl⟩
    obtain ⟨l, rfl⟩ : ∃ q : Ll, q = l_0 := ⟨l_0, rfl⟩
    obtain ⟨i_0, rfl⟩ : ∃ q : Int, q = i_0_0 := ⟨i_0_0, rfl⟩
    obtain ⟨z1_0, rfl⟩ : ∃ q : Int, q = z1_0_0 := ⟨z1_0_0, rfl⟩
    obtain ⟨z2_0, rfl⟩ : ∃ q : Int, q = z2_0_0 := ⟨z2_0_0, rfl⟩
    obtain ⟨T_, FN_, M_, snx_, wr_⟩ := s_
    have hN : ((((((Nat.beq FN_ 57 && Nat.beq snx_ 8) && Nat.beq f3 45) && Nat.beq t4 0) && decide (k4 = [.int .i64, .int .i64])) && Nat.beq t5 41) && Nat.beq t6 29) = true := by
      cases hq : (((((((Nat.beq FN_ 57 && Nat.beq snx_ 8) && Nat.beq f3 45) && Nat.beq t4 0) && decide (k4 = [.int .i64, .int .i64])) && Nat.beq t5 41) && Nat.beq t6 29) : Bool) with
      | true => rfl
      | false => (rw [hq] at h_; exact h_.elim)
    rw [hN, cond_true] at h_
    simp only [Bool.and_eq_true, beq_iff, decide_eq_true_eq] at hN
    obtain ⟨⟨⟨⟨⟨⟨rfl, rfl⟩, rfl⟩, rfl⟩, rfl⟩, rfl⟩, rfl⟩ := hN
    obtain ⟨q0, h_⟩ := h_
    obtain rfl : m1 = (Ll.len l) := q0
    obtain ⟨q0, h_⟩ := h_
    obtain rfl : m2 = (Ll.len l) := q0
    obtain ⟨q1, h_⟩ := h_
    have q1 : i_0 = (0 : Int) := q1
    obtain ⟨q2, h_⟩ := h_
    have q2 : z1_0 = (maxL (valLo l f) (valLo l t)) := q2
    obtain ⟨q3, h_⟩ := h_
    have q3 : z2_0 = (maxL (valHi l f) (valHi l t)) := q3
    obtain ⟨q4, h_⟩ := h_
    have q4 : (Ll.len l) ≤ (24 : Int) := q4
    replace h_ : K_ (.exit 0) (hdL (bodyAt Try.prog 28 [false, true, false, true, true, true, true, true]) T_ (kills [] M_) 57 8 [(32, .ls false 0 (Ll.len l)), (33, .i .i64 (Ll.len l)), (1, .i .i64 f), (2, .i .i64 t), (10, .fn 45 [] [.p 4 0, .p 6 0])] [(0, .list 0 [.int .i64, .int .i64] false l), (4, .row 41 [.fn 31 [] []])] [(34, .i .i64 (Ll.len l))] [(6, .row 29 [.i .i64 (moLo l f t), .i .i64 (moHi l f t)])] [] [] (addW ([] ++ [6]) wr_)) := h_
    have hx1 : K_ (.exit 0) (hdL (bodyAt Try.prog 28 [false, true, false, true, true, true, true, true]) T_ (kills [] M_) 57 8 [(32, .ls false 0 (Ll.len l)), (33, .i .i64 (Ll.len l)), (1, .i .i64 f), (2, .i .i64 t), (10, .fn 45 [] [.p 4 0, .p 6 0])] [(0, .list 0 [.int .i64, .int .i64] false l), (4, .row 41 [.fn 31 [] []])] [(34, .i .i64 (Ll.len l))] [(6, .row 29 [.i .i64 (moLo l f t), .i .i64 (moHi l f t)])] [] [] (addW ([] ++ [6]) wr_)) := by
      have h2 := h_
      exact h2
    refine loop_ruleL (fs := fsv) (ov := true) (s := ⟨T_, 57, M_, 8, wr_⟩) (X := Int × Int × Int) (B := [6]) (mv := []) (kt := [(32, .ls false 0 (Ll.len l)), (33, .i .i64 (Ll.len l)), (1, .i .i64 f), (2, .i .i64 t), (10, .fn 45 [] [.p 4 0, .p 6 0])]) (kr := [(0, .list 0 [.int .i64, .int .i64] false l), (4, .row 41 [.fn 31 [] []])]) (ty := []) (x := (i_0, z1_0, z2_0))
      (Inv := (fun x_ : Int × Int × Int => match x_ with | (i, z1, z2) => 0 ≤ i ∧ i ≤ Ll.len l ∧ z1 = foldV maxL l f t (maxL (valLo l f) (valLo l t)) i.toNat ∧ z2 = foldV maxL l f t (maxL (valHi l f) (valHi l t)) i.toNat)) (μ := (fun x_ : Int × Int × Int => match x_ with | (i, z1, z2) => (24 - i).toNat)) (ts := tsOf [34] []) (sl := (fun x_ : Int × Int × Int => match x_ with | (i, z1, z2) => [.i .i64 i])) (bl := (fun x_ : Int × Int × Int => match x_ with | (i, z1, z2) => [.row 29 [.i .i64 z1, .i .i64 z2]])) (ll := (fun x_ : Int × Int × Int => match x_ with | (i, z1, z2) => [])) (Q := fun e_ vs_ os_ hs_ => K_ e_ (hdL (bodyAt Try.prog 28 [false, true, false, true, true, true, true, true]) T_ (kills [] M_) 57 8 [(32, .ls false 0 (Ll.len l)), (33, .i .i64 (Ll.len l)), (1, .i .i64 f), (2, .i .i64 t), (10, .fn 45 [] [.p 4 0, .p 6 0])] [(0, .list 0 [.int .i64, .int .i64] false l), (4, .row 41 [.fn 31 [] []])] (((tsOf [34] []) e_).zip vs_) ([6].zip os_) [] hs_ (addW ([] ++ [6]) wr_)))
      (L := LL) (U := 30) (cs := sCall Try.prog 30 (spOf sp0) noLoop 20) (call := CN Try.prog AW m_) (lp := noLoop 28) (root := c0_) (p := [false, true, false, true, true, true, true, true])
      (show CallSOK _ _ from by
        have := sCall_ok (P := Try.prog) (d := m_ - 20) (U := 30) (lp := noLoop) (sp0_ok (fs := fsv) (ov := true) (d := m_ - 20)) (sp0_aw (fs := fsv) (ov := true)) (noLoop_ok) (by decide) 20
        rwa [show 20 + (m_ - 20) = m_ by omega] at this) (fun p f h => by cases h) (by decide) hc_
      (by
        rintro ⟨i, z1, z2⟩ o ho
        simp only [List.mem_cons, List.not_mem_nil, or_false] at ho
        rcases ho with rfl
        · rfl)
      (fun x hx => by
        simp only [List.mem_cons, List.not_mem_nil, or_false] at hx
        rcases hx with rfl
        · exact ⟨_, g8, rfl⟩) (fun x hx => by cases hx) (fun x hx => by
        simp only [List.mem_cons, List.not_mem_nil, or_false] at hx
        rcases hx with rfl
        · simp)
      (fun x hx => by
        simp only [List.mem_cons, List.not_mem_nil, or_false] at hx
        rcases hx with rfl | rfl | rfl | rfl | rfl
        · exact g0
        · exact g1
        · exact g2
        · exact g3
        · exact g4) (fun x hx => by
        simp only [List.mem_cons, List.not_mem_nil, or_false] at hx
        rcases hx with rfl | rfl
        · exact ⟨g5, by simp⟩
        · exact ⟨g6, by simp⟩) ?_ (fun _ _ _ _ _ h => h) ?_ ?_ ?_ hs_
    · rintro ⟨i, z1, z2⟩ hI
      exact exm_go f t l i z1 z2 i_0 z1_0 z2_0 q1 q2 q3 T_ (kills [] M_) _ q4 hI (fun i' z1' z2' ha hb => ⟨(i', z1', z2'), ha, hb, rfl, rfl, rfl⟩) (⟨by simp [SO.mine], hx1⟩)
    · show 0 ≤ i_0 ∧ i_0 ≤ Ll.len l ∧ z1_0 = foldV maxL l f t (maxL (valLo l f) (valLo l t)) i_0.toNat ∧ z2_0 = foldV maxL l f t (maxL (valHi l f) (valHi l t)) i_0.toNat
      exact ⟨by omega, by have : (0 : Int) ≤ Ll.len l := Int.natCast_nonneg _; omega, by rw [q2, q1]; rfl, by rw [q3, q1]; rfl⟩
    · show (24 - i_0).toNat < LL
      exact Nat.lt_of_le_of_lt (show _ ≤ 1000 by omega) (by decide)
    · exact ⟨⟨[.i .i64 i_0], [.row 29 [.i .i64 z1_0, .i .i64 z2_0]], [], [], by simp [gets, tsOf, g0, g1, g2, g3, g4, g5, g6, g7, g8], by simp [gets, g0, g1, g2, g3, g4, g5, g6, g7, g8], rfl, rfl, by simp [listsOf] <;> rfl⟩⟩
  · exact h_.elim
abbrev exF {A : Go.Rx.Alg} : Code → Go.Rx.SS A → (Go.Rx.Ex → Go.Rx.SS A → A.R) → A.R := fun c s K => match s.H.get 4 with
  | some (.row _ [.fn g _ _]) => bif Nat.beq g 29 then exlF c s K else exmF c s K
  | _ => A.fail "ex"
theorem exF_ok {d : Nat} (hd : 100 ≤ d) : LoopOK (fs := fsv) (ov := true) Try.prog AW d 28 [false, true, false, true, true, true, true, true] exF := by
  intro m hm fn c0 h1 h2 c ro h3 s K W ν S h hs
  unfold exF at h
  split at h
  · rename_i g _ _ _
    cases hb : Nat.beq g 29
    · rw [hb] at h; exact exmF_ok hd m hm fn c0 h1 h2 c ro h3 s K W ν S h hs
    · rw [hb] at h; exact exlF_ok hd m hm fn c0 h1 h2 c ro h3 s K W ν S h hs
  · exact h.elim
abbrev lpEx {A : Go.Rx.Alg} : Nat → Go.Rx.LoopS A := Go.Rx.lpOf [(28, [false, true, false, true, true, true, true, true], exF)]
theorem lpEx_ok {d : Nat} (hd : 100 ≤ d) : LoopsAll (fs := fsv) (ov := true) Try.prog AW d lpEx := lpOf_ok fun x hx => by
  simp only [List.mem_cons, List.not_mem_nil, or_false] at hx
  rcases hx with rfl
  · exact exF_ok (by omega)
theorem least_eq (f t : Int) (l : Ll) (KK : KS (stdA fsv true)) : sFunc Try.prog 30 (sCall Try.prog 30 (spOf spV) lpEx 20) lpEx 11 [.agg [.ls false 0 (Ll.len l)], .i .i64 f, .i .i64 t] (lsMem 0 [([.int .i64, .int .i64], l)]) 1 KK =
  ((Ll.len l) = (Ll.len l) ∧ (cond (!(rightB l))
 (KK (.agg [(.i .i64 (0 : Int)), (.i .i64 (0 : Int))]) (lsMem 0 [([.int .i64, .int .i64], l)]) 1 [])
 (cond (decide (f > t))
 (KK (.agg [(.i .i64 (0 : Int)), (.i .i64 (0 : Int))]) (lsMem 0 [([.int .i64, .int .i64], l)]) 1 [])
 ((Ll.len l) = (Ll.len l) ∧ (cond (rightB l)
 ((Ll.len l) = (Ll.len l) ∧ (cond (rightB l)
 ((Ll.len l) = (Ll.len l) ∧ ((Ll.len l) = (Ll.len l) ∧ ((0 : Int) = (0 : Int) ∧ ((minL (valLo l f) (valLo l t)) = (minL (valLo l f) (valLo l t)) ∧ ((minL (valHi l f) (valHi l t)) = (minL (valHi l f) (valHi l t)) ∧ ((Ll.len l) ≤ (24 : Int) ∧ (KK (.agg [(.i .i64 (leLo l f t)), (.i .i64 (leHi l f t))]) (lsMem 0 [([.int .i64, .int .i64], l)]) 1 [])))))))
 False))
 False))))) := by kernel_rfl
theorem least_pure {m : Nat} (hm : 400 ≤ m) {H : Hp} {nx : Nat} (f t : Int) {v_l : LV} {l : Ll} (hl_l : IsL H nx [.int .i64, .int .i64] l v_l) : Pure Try.prog AW m 11 [.agg [v_l], .i .i64 f, .i .i64 t] H nx (.agg [.i .i64 (if rightB l = true ∧ f ≤ t then leLo l f t else 0), .i .i64 (if rightB l = true ∧ f ≤ t then leHi l f t else 0)]) := by
  obtain ⟨ν, n1, n2, n3, n4⟩ := ls_in (fs := fsv) (ov := true) (l := [([.int .i64, .int .i64], l)]) (lvs := [v_l]) 0 (fun i x lv e1 e2 => by
    cases i with
    | zero => simp at e1 e2; subst e1 e2; exact hl_l
    | succ i =>
      simp at e1) rfl
  refine pure_of (n := 20) (d := m - 21) (U := 30) (fs := fsv) (ov := true) (spV_ok (by omega)) spV_aw (lpEx_ok (by omega)) (by decide) (by decide) (by omega) (args := [.agg [.ls false 0 (Ll.len l)], .i .i64 f, .i .i64 t]) (M := lsMem 0 [([.int .i64, .int .i64], l)]) (snx := 1) ?_ (VSL.cons ⟨_, rfl, (VSL.cons (n4 0 _ _ rfl rfl) rfl)⟩ (VSL.cons rfl (VSL.cons rfl rfl))) (hs_in n2 n3)
  rw [least_eq]
  cases hb : rightB l
  · exact ⟨by trivial, end_ii (by simp) (by simp)⟩
  · have hl : Ll.len l = (l.length : Int) := rfl
    have hlen := (right_of hb).len
    by_cases h : f > t
    · rw [decide_eq_true h]
      repeat' (first | exact end_ii (if_neg (by omega)).symm (if_neg (by omega)).symm | apply And.intro)
      all_goals first | trivial | omega
    · rw [decide_eq_false h]
      repeat' (first | exact end_ii (if_pos ⟨rfl, by omega⟩).symm (if_pos ⟨rfl, by omega⟩).symm | apply And.intro)
      all_goals first | trivial | omega
abbrev leastS {A : Go.Rx.Alg} : List (Go.Rx.SV A) → Go.Rx.SH A → Nat → Go.Rx.KS A → A.R := fun args_ M_ snx_ K_ => match args_ with
  | [.agg [x_l], .i .i64 f, .i .i64 t] => (match Go.Rx.lsArg M_ [.int .i64, .int .i64] x_l with | some (l, n_l) => (A.need .eql n_l (A.len l) (K_ (.agg [.i .i64 (A.app 15 [l] [f, t]), .i .i64 (A.app 16 [l] [f, t])]) M_ snx_ [])) | none => A.fail "least")
  | _ => A.fail "least"
theorem leastS_ok {ov : Bool} {d : Nat} (hd : 400 ≤ d) : SpecOK (fs := fsv) (ov := ov) Try.prog AW d 11 leastS := by
  intro m_ hm_ args_ M_ snx_ K_ h_ ν_ largs_ H_ nx_ ha_ hM_
  unfold leastS at h_
  split at h_
  · rename_i x_l f t
    obtain ⟨y1, r1, rfl, ⟨l1, rfl, ⟨v_l, r2, rfl, hx_l, rfl⟩⟩, ⟨y3, r3, rfl, rfl, ⟨y4, r4, rfl, rfl, rfl⟩⟩⟩ := ha_
    split at h_
    · rename_i l n_l q_l
      obtain ⟨e_l, h_⟩ := h_
      exact pure_got (least_pure (by omega) f t (lsArg_ok hM_ hx_l q_l e_l)) hM_ (v := .agg [.i .i64 _, .i .i64 _]) ⟨_, rfl, (VSL.cons rfl (VSL.cons rfl rfl))⟩ h_
    · exact h_.elim
  · exact h_.elim
theorem most_eq (f t : Int) (l : Ll) (KK : KS (stdA fsv true)) : sFunc Try.prog 30 (sCall Try.prog 30 (spOf spV) lpEx 20) lpEx 13 [.agg [.ls false 0 (Ll.len l)], .i .i64 f, .i .i64 t] (lsMem 0 [([.int .i64, .int .i64], l)]) 1 KK =
  ((Ll.len l) = (Ll.len l) ∧ (cond (!(rightB l))
 (KK (.agg [(.i .i64 (0 : Int)), (.i .i64 (0 : Int))]) (lsMem 0 [([.int .i64, .int .i64], l)]) 1 [])
 (cond (decide (f > t))
 (KK (.agg [(.i .i64 (0 : Int)), (.i .i64 (0 : Int))]) (lsMem 0 [([.int .i64, .int .i64], l)]) 1 [])
 ((Ll.len l) = (Ll.len l) ∧ (cond (rightB l)
 ((Ll.len l) = (Ll.len l) ∧ (cond (rightB l)
 ((Ll.len l) = (Ll.len l) ∧ ((Ll.len l) = (Ll.len l) ∧ ((0 : Int) = (0 : Int) ∧ ((maxL (valLo l f) (valLo l t)) = (maxL (valLo l f) (valLo l t)) ∧ ((maxL (valHi l f) (valHi l t)) = (maxL (valHi l f) (valHi l t)) ∧ ((Ll.len l) ≤ (24 : Int) ∧ (KK (.agg [(.i .i64 (moLo l f t)), (.i .i64 (moHi l f t))]) (lsMem 0 [([.int .i64, .int .i64], l)]) 1 [])))))))
 False))
 False))))) := by kernel_rfl
theorem most_pure {m : Nat} (hm : 400 ≤ m) {H : Hp} {nx : Nat} (f t : Int) {v_l : LV} {l : Ll} (hl_l : IsL H nx [.int .i64, .int .i64] l v_l) : Pure Try.prog AW m 13 [.agg [v_l], .i .i64 f, .i .i64 t] H nx (.agg [.i .i64 (if rightB l = true ∧ f ≤ t then moLo l f t else 0), .i .i64 (if rightB l = true ∧ f ≤ t then moHi l f t else 0)]) := by
  obtain ⟨ν, n1, n2, n3, n4⟩ := ls_in (fs := fsv) (ov := true) (l := [([.int .i64, .int .i64], l)]) (lvs := [v_l]) 0 (fun i x lv e1 e2 => by
    cases i with
    | zero => simp at e1 e2; subst e1 e2; exact hl_l
    | succ i =>
      simp at e1) rfl
  refine pure_of (n := 20) (d := m - 21) (U := 30) (fs := fsv) (ov := true) (spV_ok (by omega)) spV_aw (lpEx_ok (by omega)) (by decide) (by decide) (by omega) (args := [.agg [.ls false 0 (Ll.len l)], .i .i64 f, .i .i64 t]) (M := lsMem 0 [([.int .i64, .int .i64], l)]) (snx := 1) ?_ (VSL.cons ⟨_, rfl, (VSL.cons (n4 0 _ _ rfl rfl) rfl)⟩ (VSL.cons rfl (VSL.cons rfl rfl))) (hs_in n2 n3)
  rw [most_eq]
  cases hb : rightB l
  · exact ⟨by trivial, end_ii (by simp) (by simp)⟩
  · have hl : Ll.len l = (l.length : Int) := rfl
    have hlen := (right_of hb).len
    by_cases h : f > t
    · rw [decide_eq_true h]
      repeat' (first | exact end_ii (if_neg (by omega)).symm (if_neg (by omega)).symm | apply And.intro)
      all_goals first | trivial | omega
    · rw [decide_eq_false h]
      repeat' (first | exact end_ii (if_pos ⟨rfl, by omega⟩).symm (if_pos ⟨rfl, by omega⟩).symm | apply And.intro)
      all_goals first | trivial | omega
abbrev mostS {A : Go.Rx.Alg} : List (Go.Rx.SV A) → Go.Rx.SH A → Nat → Go.Rx.KS A → A.R := fun args_ M_ snx_ K_ => match args_ with
  | [.agg [x_l], .i .i64 f, .i .i64 t] => (match Go.Rx.lsArg M_ [.int .i64, .int .i64] x_l with | some (l, n_l) => (A.need .eql n_l (A.len l) (K_ (.agg [.i .i64 (A.app 17 [l] [f, t]), .i .i64 (A.app 18 [l] [f, t])]) M_ snx_ [])) | none => A.fail "most")
  | _ => A.fail "most"
theorem mostS_ok {ov : Bool} {d : Nat} (hd : 400 ≤ d) : SpecOK (fs := fsv) (ov := ov) Try.prog AW d 13 mostS := by
  intro m_ hm_ args_ M_ snx_ K_ h_ ν_ largs_ H_ nx_ ha_ hM_
  unfold mostS at h_
  split at h_
  · rename_i x_l f t
    obtain ⟨y1, r1, rfl, ⟨l1, rfl, ⟨v_l, r2, rfl, hx_l, rfl⟩⟩, ⟨y3, r3, rfl, rfl, ⟨y4, r4, rfl, rfl, rfl⟩⟩⟩ := ha_
    split at h_
    · rename_i l n_l q_l
      obtain ⟨e_l, h_⟩ := h_
      exact pure_got (most_pure (by omega) f t (lsArg_ok hM_ hx_l q_l e_l)) hM_ (v := .agg [.i .i64 _, .i .i64 _]) ⟨_, rfl, (VSL.cons rfl (VSL.cons rfl rfl))⟩ h_
    · exact h_.elim
  · exact h_.elim
end Go.Proofs.Ytjemcdjigeijbaa
