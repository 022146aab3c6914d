/-
  Layer 2: the law of values.
-/
import Derived.Test.YtjemcdjigeijbaaVe
set_option linter.unusedSimpArgs false
set_option linter.unusedVariables false
set_option maxRecDepth 100000
namespace Go.Proofs.Ytjemcdjigeijbaa
open Go Go.Rx

theorem sm_eq (i : Int) (a b : Ll) (T : Al (SV (stdA fsv true))) (M : Al (SO (stdA fsv true))) (KK : Ex → List (SV (stdA fsv true)) → List (SO (stdA fsv true)) → List Ll → Prop) : sCode Try.prog (sCall Try.prog 30 (spOf sp0) noLoop 20) (noLoop 17) 30 (false :: [false, true, false, true]) (bodyAt Try.prog 17 [false, true, false, true]) (hdL (bodyAt Try.prog 17 [false, true, false, true]) T M 38 4 [(2, .p 2 0), (3, .p 3 0)] [(0, .list 0 [.int .i64, .int .i64] false a), (1, .list 0 [.int .i64, .int .i64] false b), (2, .row 24 [.ls false 0 (Ll.len a)]), (3, .row 24 [.ls false 1 (Ll.len b)])] [(5, .i .i64 i)] [] [] [] []) (outL 4 (tsOf [5] [4]) [] [] [] KK) =
  (cond (decide (i < (Ll.len a)))
 (cond (decide (i < (Ll.len b)))
 ((0 : Int) ≤ i ∧ (i < (Ll.len a) ∧ (i < (Ll.len a) ∧ ((0 : Int) ≤ i ∧ (i < (Ll.len b) ∧ (i < (Ll.len b) ∧ (cond (!((decide ((Ll.get a i 0) = (Ll.get b i 0))) && (decide ((Ll.get a i 1) = (Ll.get b i 1)))))
 (KK .ret [(.b false)] [] [])
 (InK .i64 (i + (1 : Int)) ∧ (KK .normal [(.i .i64 (i + (1 : Int)))] [] [])))))))))
 (KK (.exit 0) [(.i .i64 i)] [] []))
 (KK (.exit 0) [(.i .i64 i)] [] [])) := by kernel_rfl
theorem sm_go (a : Ll) (b : Ll) (i : Int) (i_0 : Int) (r1 : i_0 = (0 : Int)) (T : Al (SV (stdA fsv true))) (M : Al (SO (stdA fsv true))) (KK : Ex → List (SV (stdA fsv true)) → List (SO (stdA fsv true)) → List Ll → Prop) (p1 : (Ll.len a) ≤ (1000000 : Int)) (hI : 0 ≤ i ∧ i ≤ dfI a b) (hn : ∀ (i' : Int), 0 ≤ i' ∧ i' ≤ dfI a b → (2000000 - i').toNat < (2000000 - i).toNat → KK .normal [.i .i64 i'] [] []) (hx1 : (decide (dfI a b < (min a.length b.length : Nat))) = true → KK .ret [.b false] [] []) (hx2 : (decide (dfI a b < (min a.length b.length : Nat))) = false → KK (.exit 0) [.i .i64 ((min a.length b.length : Nat))] [] []) :
    sCode Try.prog (sCall Try.prog 30 (spOf sp0) noLoop 20) (noLoop 17) 30 (false :: [false, true, false, true]) (bodyAt Try.prog 17 [false, true, false, true]) (hdL (bodyAt Try.prog 17 [false, true, false, true]) T M 38 4 [(2, .p 2 0), (3, .p 3 0)] [(0, .list 0 [.int .i64, .int .i64] false a), (1, .list 0 [.int .i64, .int .i64] false b), (2, .row 24 [.ls false 0 (Ll.len a)]), (3, .row 24 [.ls false 1 (Ll.len b)])] [(5, .i .i64 i)] [] [] [] []) (outL 4 (tsOf [5] [4]) [] [] [] KK) := by
  refine Eq.mpr (sm_eq i a b T M KK) ?_
  have hl : Ll.len a = (a.length : Int) := rfl
  have hl2 : Ll.len b = (b.length : Int) := rfl
  obtain ⟨i0, i1⟩ := hI
  obtain ⟨_, a2, _, _⟩ := leastN_spec (fun j => !rowE a b j) (min a.length b.length) 0
  have a3 : dfI a b ≤ (min a.length b.length : Nat) := by unfold dfI; omega
  by_cases h : i < Ll.len a
  · rw [decide_eq_true h]
    by_cases h2 : i < Ll.len b
    · rw [decide_eq_true h2]
      have hs := leastN_step (p := fun j => !rowE a b j) (k := min a.length b.length) i0 i1 (by omega)
      have key : cond (!rowE a b i) (KK .ret [.b false] [] []) (InK .i64 (i + 1) ∧ KK .normal [.i .i64 (i + 1)] [] []) := by
        cases hb : rowE a b i with
        | false => exact hx1 (decide_eq_true (by have : dfI a b = i := hs.1 (by rw [hb]; rfl); omega))
        | true => exact ⟨by rw [InK64]; omega, hn (i + 1) ⟨by omega, hs.2 (by rw [hb]; rfl)⟩ (by omega)⟩
      repeat' (first | exact key | apply And.intro)
      all_goals first | trivial | omega
    · rw [decide_eq_false h2]
      obtain rfl : i = (min a.length b.length : Nat) := by omega
      exact hx2 (decide_eq_false (by omega))
  · rw [decide_eq_false h]
    obtain rfl : i = (min a.length b.length : Nat) := by omega
    exact hx2 (decide_eq_false (by omega))
abbrev smF {A : Go.Rx.Alg} : Code → Go.Rx.SS A → (Go.Rx.Ex → Go.Rx.SS A → A.R) → A.R := fun c_ s_ K_ => match s_.T.get 2, s_.T.get 3, s_.H.get 0, s_.H.get 1, s_.H.get 2, s_.H.get 3, s_.T.get 5 with
  | some (.p 2 0), some (.p 3 0), some (.list t1 k1 false a), some (.list t2 k2 false b), some (.row t3 [.ls false 0 m4]), some (.row t5 [.ls false 1 m6]), some (.i .i64 i) => bif (((((((Nat.beq s_.N 38 && Nat.beq s_.nx 4) && Nat.beq t1 0) && decide (k1 = [.int .i64, .int .i64])) && Nat.beq t2 0) && decide (k2 = [.int .i64, .int .i64])) && Nat.beq t3 24) && Nat.beq t5 24) then (A.need .eql m4 (A.len a) (A.need .eql m6 (A.len b) (A.need .eql i (A.lit 0) (A.need .leq (A.len a) (A.lit 1000000) ((A.br (A.appB 41 [a, b] []) (fun _ => K_ .ret (Go.Rx.hdL c_ s_.T (Go.Rx.kills [] s_.H) 38 4 [(2, .p 2 0), (3, .p 3 0)] [(0, .list 0 [.int .i64, .int .i64] false a), (1, .list 0 [.int .i64, .int .i64] false b), (2, .row 24 [.ls false 0 (A.len a)]), (3, .row 24 [.ls false 1 (A.len b)])] [(4, .b (A.ofB false))] [] [] [] (Go.Rx.addW ([] ++ []) s_.wr))) (fun _ => K_ (.exit 0) (Go.Rx.hdL c_ s_.T (Go.Rx.kills [] s_.H) 38 4 [(2, .p 2 0), (3, .p 3 0)] [(0, .list 0 [.int .i64, .int .i64] false a), (1, .list 0 [.int .i64, .int .i64] false b), (2, .row 24 [.ls false 0 (A.len a)]), (3, .row 24 [.ls false 1 (A.len b)])] [(5, .i .i64 (A.app 29 [a, b] []))] [] [] [] (Go.Rx.addW ([] ++ []) s_.wr))))))))) else A.fail "frame of sm"
  | _, _, _, _, _, _, _ => A.fail "sm"
theorem smF_ok {d : Nat} (hd : 100 ≤ d) : LoopOK (fs := fsv) (ov := true) Try.prog AW d 17 [false, true, false, true] smF := by
  intro m_ hm_ fn_ c0_ hfn_ hb_ c_ ro_ hc_ s_ K_ W_ ν_ S_ h_ hs_
  obtain rfl := body_of hfn_ hb_ hc_
  unfold smF at h_
  split at h_
  · rename_i t1 k1 a_0 t2 k2 b_0 t3 m4_0 t5 m6_0 i_0_0 g0 g1 g2 g3 g4 g5 g6
    obtain ⟨a, rfl⟩ : ∃ q : Ll, q = a_0 := ⟨a_0, rfl⟩
    obtain ⟨b, rfl⟩ : ∃ q : Ll, q = b_0 := ⟨b_0, rfl⟩
    obtain ⟨m4, rfl⟩ : ∃ q : Int, q = m4_0 := ⟨m4_0, rfl⟩
    obtain ⟨m6, rfl⟩ : ∃ q : Int, q = m6_0 := ⟨m6_0, rfl⟩
    obtain ⟨i_0, rfl⟩ : ∃ q : Int, q = i_0_0 := ⟨i_0_0, rfl⟩
    obtain ⟨T_, FN_, M_, snx_, wr_⟩ := s_
    have hN : (((((((Nat.beq FN_ 38 && Nat.beq snx_ 4) && Nat.beq t1 0) && decide (k1 = [.int .i64, .int .i64])) && Nat.beq t2 0) && decide (k2 = [.int .i64, .int .i64])) && Nat.beq t3 24) && Nat.beq t5 24) = true := by
      cases hq : ((((((((Nat.beq FN_ 38 && Nat.beq snx_ 4) && Nat.beq t1 0) && decide (k1 = [.int .i64, .int .i64])) && Nat.beq t2 0) && decide (k2 = [.int .i64, .int .i64])) && Nat.beq t3 24) && Nat.beq t5 24) : Bool) with
      | true => rfl
      | false => (rw [hq] at h_; exact h_.elim)
    rw [hN, cond_true] at h_
    simp only [Bool.and_eq_true, beq_iff, decide_eq_true_eq] at hN
    obtain ⟨⟨⟨⟨⟨⟨⟨rfl, rfl⟩, rfl⟩, rfl⟩, rfl⟩, rfl⟩, rfl⟩, rfl⟩ := hN
    obtain ⟨q0, h_⟩ := h_
    obtain rfl : m4 = (Ll.len a) := q0
    obtain ⟨q0, h_⟩ := h_
    obtain rfl : m6 = (Ll.len b) := q0
    obtain ⟨q1, h_⟩ := h_
    have q1 : i_0 = (0 : Int) := q1
    obtain ⟨q2, h_⟩ := h_
    have q2 : (Ll.len a) ≤ (1000000 : Int) := q2
    replace h_ : cond (decide (dfI a b < (min a.length b.length : Nat))) (K_ .ret (hdL (bodyAt Try.prog 17 [false, true, false, true]) T_ (kills [] M_) 38 4 [(2, .p 2 0), (3, .p 3 0)] [(0, .list 0 [.int .i64, .int .i64] false a), (1, .list 0 [.int .i64, .int .i64] false b), (2, .row 24 [.ls false 0 (Ll.len a)]), (3, .row 24 [.ls false 1 (Ll.len b)])] [(4, .b false)] [] [] [] (addW ([] ++ []) wr_))) (K_ (.exit 0) (hdL (bodyAt Try.prog 17 [false, true, false, true]) T_ (kills [] M_) 38 4 [(2, .p 2 0), (3, .p 3 0)] [(0, .list 0 [.int .i64, .int .i64] false a), (1, .list 0 [.int .i64, .int .i64] false b), (2, .row 24 [.ls false 0 (Ll.len a)]), (3, .row 24 [.ls false 1 (Ll.len b)])] [(5, .i .i64 ((min a.length b.length : Nat)))] [] [] [] (addW ([] ++ []) wr_))) := h_
    have hx1 : (decide (dfI a b < (min a.length b.length : Nat))) = true → K_ .ret (hdL (bodyAt Try.prog 17 [false, true, false, true]) T_ (kills [] M_) 38 4 [(2, .p 2 0), (3, .p 3 0)] [(0, .list 0 [.int .i64, .int .i64] false a), (1, .list 0 [.int .i64, .int .i64] false b), (2, .row 24 [.ls false 0 (Ll.len a)]), (3, .row 24 [.ls false 1 (Ll.len b)])] [(4, .b false)] [] [] [] (addW ([] ++ []) wr_)) := fun e1 => by
      have h2 := h_
      rw [e1] at h2; simp only [cond_true, cond_false] at h2; exact h2
    have hx2 : (decide (dfI a b < (min a.length b.length : Nat))) = false → K_ (.exit 0) (hdL (bodyAt Try.prog 17 [false, true, false, true]) T_ (kills [] M_) 38 4 [(2, .p 2 0), (3, .p 3 0)] [(0, .list 0 [.int .i64, .int .i64] false a), (1, .list 0 [.int .i64, .int .i64] false b), (2, .row 24 [.ls false 0 (Ll.len a)]), (3, .row 24 [.ls false 1 (Ll.len b)])] [(5, .i .i64 ((min a.length b.length : Nat)))] [] [] [] (addW ([] ++ []) wr_)) := fun e1 => by
      have h2 := h_
      rw [e1] at h2; simp only [cond_true, cond_false] at h2; exact h2
    refine loop_ruleL (fs := fsv) (ov := true) (s := ⟨T_, 38, M_, 4, wr_⟩) (X := Int) (B := []) (mv := []) (kt := [(2, .p 2 0), (3, .p 3 0)]) (kr := [(0, .list 0 [.int .i64, .int .i64] false a), (1, .list 0 [.int .i64, .int .i64] false b), (2, .row 24 [.ls false 0 (Ll.len a)]), (3, .row 24 [.ls false 1 (Ll.len b)])]) (ty := []) (x := (i_0))
      (Inv := (fun x_ : Int => match x_ with | (i) => 0 ≤ i ∧ i ≤ dfI a b)) (μ := (fun x_ : Int => match x_ with | (i) => (2000000 - i).toNat)) (ts := tsOf [5] [4]) (sl := (fun x_ : Int => match x_ with | (i) => [.i .i64 i])) (bl := (fun x_ : Int => match x_ with | (i) => [])) (ll := (fun x_ : Int => match x_ with | (i) => [])) (Q := fun e_ vs_ os_ hs_ => K_ e_ (hdL (bodyAt Try.prog 17 [false, true, false, true]) T_ (kills [] M_) 38 4 [(2, .p 2 0), (3, .p 3 0)] [(0, .list 0 [.int .i64, .int .i64] false a), (1, .list 0 [.int .i64, .int .i64] false b), (2, .row 24 [.ls false 0 (Ll.len a)]), (3, .row 24 [.ls false 1 (Ll.len b)])] (((tsOf [5] [4]) e_).zip vs_) ([].zip os_) [] hs_ (addW ([] ++ []) wr_)))
      (L := LL) (U := 30) (cs := sCall Try.prog 30 (spOf sp0) noLoop 20) (call := CN Try.prog AW m_) (lp := noLoop 17) (root := c0_) (p := [false, true, false, true])
      (show CallSOK _ _ from by
        have := sCall_ok (P := Try.prog) (d := m_ - 20) (U := 30) (lp := noLoop) (sp0_ok (fs := fsv) (ov := true) (d := m_ - 20)) (sp0_aw (fs := fsv) (ov := true)) (noLoop_ok) (by decide) 20
        rwa [show 20 + (m_ - 20) = m_ by omega] at this) (fun p f h => by cases h) (by decide) hc_
      (fun x o ho => by cases ho)
      (fun x hx => by cases hx) (fun x hx => by cases hx) (fun x hx => by cases hx)
      (fun x hx => by
        simp only [List.mem_cons, List.not_mem_nil, or_false] at hx
        rcases hx with rfl | rfl
        · exact g0
        · exact g1) (fun x hx => by
        simp only [List.mem_cons, List.not_mem_nil, or_false] at hx
        rcases hx with rfl | rfl | rfl | rfl
        · exact ⟨g2, by simp⟩
        · exact ⟨g3, by simp⟩
        · exact ⟨g4, by simp⟩
        · exact ⟨g5, by simp⟩) ?_ (fun _ _ _ _ _ h => h) ?_ ?_ ?_ hs_
    · rintro i hI
      exact sm_go a b i i_0 q1 T_ (kills [] M_) _ q2 hI (fun i' ha hb => ⟨(i'), ha, hb, rfl, rfl, rfl⟩) (fun e1 => ⟨by simp [SO.mine], hx1 e1⟩) (fun e1 => ⟨by simp [SO.mine], hx2 e1⟩)
    · show 0 ≤ i_0 ∧ i_0 ≤ dfI a b
      exact ⟨by omega, by rw [q1]; exact (leastN_spec (fun j => !rowE a b j) (min a.length b.length) 0).1⟩
    · show (2000000 - i_0).toNat < LL
      exact Nat.lt_of_le_of_lt (show _ ≤ 2000000 by omega) (by decide)
    · exact ⟨⟨[.i .i64 i_0], [], [], [], by simp [gets, tsOf, g0, g1, g2, g3, g4, g5, g6], by simp [gets, g0, g1, g2, g3, g4, g5, g6], rfl, rfl, by simp [listsOf] <;> rfl⟩⟩
  · exact h_.elim
abbrev lpSm {A : Go.Rx.Alg} : Nat → Go.Rx.LoopS A := Go.Rx.lpOf [(17, [false, true, false, true], smF)]
theorem lpSm_ok {d : Nat} (hd : 100 ≤ d) : LoopsAll (fs := fsv) (ov := true) Try.prog AW d lpSm := lpOf_ok fun x hx => by
  simp only [List.mem_cons, List.not_mem_nil, or_false] at hx
  rcases hx with rfl
  · exact smF_ok (by omega)
theorem same_eq (a b : Ll) (KK : KS (stdA fsv true)) : sFunc Try.prog 30 (sCall Try.prog 30 (spOf sp0) lpSm 20) lpSm 17 [.agg [.ls false 0 (Ll.len a)], .agg [.ls false 1 (Ll.len b)]] (lsMem 0 [([.int .i64, .int .i64], a), ([.int .i64, .int .i64], b)]) 2 KK =
  ((Ll.len a) = (Ll.len a) ∧ ((Ll.len b) = (Ll.len b) ∧ ((0 : Int) = (0 : Int) ∧ ((Ll.len a) ≤ (1000000 : Int) ∧ (cond (decide (dfI a b < (min a.length b.length : Nat)))
 (KK (.b false) (lsMem 0 [([.int .i64, .int .i64], a), ([.int .i64, .int .i64], b)]) 2 [])
 (KK (.b (decide ((Ll.len a) = (Ll.len b)))) (lsMem 0 [([.int .i64, .int .i64], a), ([.int .i64, .int .i64], b)]) 2 [])))))) := by kernel_rfl
theorem same_pure {m : Nat} (hm : 200 ≤ m) {H : Hp} {nx : Nat} {v_a : LV} {a : Ll} (hl_a : IsL H nx [.int .i64, .int .i64] a v_a) {v_b : LV} {b : Ll} (hl_b : IsL H nx [.int .i64, .int .i64] b v_b) (p1 : (Ll.len a) ≤ (1000000 : Int)) : Pure Try.prog AW m 17 [.agg [v_a], .agg [v_b]] H nx (.b (sameLn a b)) := by
  obtain ⟨ν, n1, n2, n3, n4⟩ := ls_in (fs := fsv) (ov := true) (l := [([.int .i64, .int .i64], a), ([.int .i64, .int .i64], b)]) (lvs := [v_a, v_b]) 0 (fun i x lv e1 e2 => by
    cases i with
    | zero => simp at e1 e2; subst e1 e2; exact hl_a
    | succ i =>
      cases i with
      | zero => simp at e1 e2; subst e1 e2; exact hl_b
      | succ i =>
        simp at e1) rfl
  refine pure_of (n := 20) (d := m - 21) (U := 30) (fs := fsv) (ov := true) sp0_ok sp0_aw (lpSm_ok (by omega)) (by decide) (by decide) (by omega) (args := [.agg [.ls false 0 (Ll.len a)], .agg [.ls false 1 (Ll.len b)]]) (M := lsMem 0 [([.int .i64, .int .i64], a), ([.int .i64, .int .i64], b)]) (snx := 2) ?_ (VSL.cons ⟨_, rfl, (VSL.cons (n4 0 _ _ rfl rfl) rfl)⟩ (VSL.cons ⟨_, rfl, (VSL.cons (n4 1 _ _ rfl rfl) rfl)⟩ rfl)) (hs_in n2 n3)
  rw [same_eq]
  have hl : Ll.len a = (a.length : Int) := rfl
  have hl2 : Ll.len b = (b.length : Int) := rfl
  have c0 : sameLn a b = decide (a.length = b.length ∧ ¬ dfI a b < (min a.length b.length : Nat)) := rfl
  by_cases h : dfI a b < (min a.length b.length : Nat)
  · rw [decide_eq_true h]
    repeat' (first | exact end_b (by rw [c0]; exact (decide_eq_false fun hc => hc.2 h).symm) | apply And.intro)
    all_goals first | trivial | omega
  · rw [decide_eq_false h]
    have e : decide (Ll.len a = Ll.len b) = sameLn a b := by
      rw [c0]
      by_cases h2 : a.length = b.length
      · rw [decide_eq_true (show Ll.len a = Ll.len b by omega), decide_eq_true ⟨h2, h⟩]
      · rw [decide_eq_false (show ¬ Ll.len a = Ll.len b by omega), decide_eq_false fun hc => h2 hc.1]
    repeat' (first | exact end_b e | apply And.intro)
    all_goals first | trivial | omega
abbrev sameS {A : Go.Rx.Alg} : List (Go.Rx.SV A) → Go.Rx.SH A → Nat → Go.Rx.KS A → A.R := fun args_ M_ snx_ K_ => match args_ with
  | [.agg [x_a], .agg [x_b]] => (match Go.Rx.lsArg M_ [.int .i64, .int .i64] x_a with | some (a, n_a) => (A.need .eql n_a (A.len a) (match Go.Rx.lsArg M_ [.int .i64, .int .i64] x_b with | some (b, n_b) => (A.need .eql n_b (A.len b) (A.need .leq (A.len a) (A.lit 1000000) (K_ (.b (A.appB 40 [a, b] [])) M_ snx_ []))) | none => A.fail "same")) | none => A.fail "same")
  | _ => A.fail "same"
theorem sameS_ok {ov : Bool} {d : Nat} (hd : 200 ≤ d) : SpecOK (fs := fsv) (ov := ov) Try.prog AW d 17 sameS := by
  intro m_ hm_ args_ M_ snx_ K_ h_ ν_ largs_ H_ nx_ ha_ hM_
  unfold sameS at h_
  split at h_
  · rename_i x_a x_b
    obtain ⟨y1, r1, rfl, ⟨l1, rfl, ⟨v_a, r2, rfl, hx_a, rfl⟩⟩, ⟨y3, r3, rfl, ⟨l3, rfl, ⟨v_b, r4, rfl, hx_b, rfl⟩⟩, rfl⟩⟩ := ha_
    split at h_
    · rename_i a n_a q_a
      obtain ⟨e_a, h_⟩ := h_
      split at h_
      · rename_i b n_b q_b
        obtain ⟨e_b, h_⟩ := h_
        obtain ⟨p1, h_⟩ := h_
        exact pure_got (same_pure (by omega) (lsArg_ok hM_ hx_a q_a e_a) (lsArg_ok hM_ hx_b q_b e_b) p1) hM_ (v := .b _) rfl h_
      · exact h_.elim
    · exact h_.elim
  · exact h_.elim
abbrev spL {A : Go.Rx.Alg} : Go.Rx.SpL A := [(AW, Go.Rx.awakeS), (9, atS), (10, ratS), (11, leastS), (12, rleastS), (13, mostS), (14, rmostS), (15, aboveS), (16, raboveS), (17, sameS)]
theorem spL_ok {ov : Bool} {d : Nat} (hd : 600 ≤ d) : SpOK (fs := fsv) (ov := ov) Try.prog AW d spL := SpOK.cons awake_ok (SpOK.cons (atS_ok (by omega)) (SpOK.cons (ratS_ok (by omega)) (SpOK.cons (leastS_ok (by omega)) (SpOK.cons (rleastS_ok (by omega)) (SpOK.cons (mostS_ok (by omega)) (SpOK.cons (rmostS_ok (by omega)) (SpOK.cons (aboveS_ok (by omega)) (SpOK.cons (raboveS_ok (by omega)) (SpOK.cons (sameS_ok (by omega)) SpOK.nil)))))))))
theorem spL_aw {fs : Fs} {ov : Bool} : (spOf (A := stdA fs ov) spL AW).isSome = true := rfl
theorem values_eq (x y : Int) (l o : Ll) (KK : KS (stdA fsv true)) : sFunc Try.prog 30 (sCall Try.prog 30 (spOf spL) noLoop 20) noLoop 3 [.agg [.ls false 0 (Ll.len l)], .agg [.ls false 1 (Ll.len o)], .i .i64 x, .i .i64 y] (lsMem 0 [([.int .i64, .int .i64], l), ([.int .i64, .int .i64], o)]) 2 KK =
  (cond (!(decide ((Ll.len l) ≤ (26 : Int))))
 (KK (.b true) (lsMem 0 [([.int .i64, .int .i64], l), ([.int .i64, .int .i64], o)]) 2 [])
 (cond (!(decide ((Ll.len o) ≤ (26 : Int))))
 (KK (.b true) (lsMem 0 [([.int .i64, .int .i64], l), ([.int .i64, .int .i64], o)]) 2 [])
 ((Ll.len l) = (Ll.len l) ∧ (cond (decide ((Ll.len l) = (0 : Int)))
 ((Ll.len []) = (Ll.len []) ∧ ((Ll.len l) = (Ll.len l) ∧ (cond (!((decide ((if rightB [] = true then valLo [] x else 0) = (if rightB l = true then valLo l x else 0))) && (decide ((if rightB [] = true then valHi [] x else 0) = (if rightB l = true then valHi l x else 0)))))
 (KK (.b false) (lsMem 0 [([.int .i64, .int .i64], l), ([.int .i64, .int .i64], o)]) 2 [])
 ((Ll.len []) = (Ll.len []) ∧ ((Ll.len l) = (Ll.len l) ∧ (cond (!((decide ((if rightB [] = true ∧ x ≤ y then leLo [] x y else 0) = (if rightB l = true ∧ x ≤ y then leLo l x y else 0))) && (decide ((if rightB [] = true ∧ x ≤ y then leHi [] x y else 0) = (if rightB l = true ∧ x ≤ y then leHi l x y else 0)))))
 (KK (.b false) (lsMem 0 [([.int .i64, .int .i64], l), ([.int .i64, .int .i64], o)]) 2 [])
 ((Ll.len []) = (Ll.len []) ∧ ((Ll.len l) = (Ll.len l) ∧ (cond (!((decide ((if rightB [] = true ∧ x ≤ y then moLo [] x y else 0) = (if rightB l = true ∧ x ≤ y then moLo l x y else 0))) && (decide ((if rightB [] = true ∧ x ≤ y then moHi [] x y else 0) = (if rightB l = true ∧ x ≤ y then moHi l x y else 0)))))
 (KK (.b false) (lsMem 0 [([.int .i64, .int .i64], l), ([.int .i64, .int .i64], o)]) 2 [])
 ((Ll.len []) = (Ll.len []) ∧ ((Ll.len o) = (Ll.len o) ∧ ((Ll.len l) = (Ll.len l) ∧ ((Ll.len o) = (Ll.len o) ∧ (cond ((aboveB [] o) == (aboveB l o))
 ((Ll.len []) = (Ll.len []) ∧ ((Ll.len l) = (Ll.len l) ∧ ((Ll.len []) ≤ (1000000 : Int) ∧ (cond (sameLn [] l)
 (KK (.b true) (lsMem 0 [([.int .i64, .int .i64], l), ([.int .i64, .int .i64], o)]) 2 [])
 (KK (.b false) (lsMem 0 [([.int .i64, .int .i64], l), ([.int .i64, .int .i64], o)]) 2 [])))))
 (KK (.b false) (lsMem 0 [([.int .i64, .int .i64], l), ([.int .i64, .int .i64], o)]) 2 [])))))))))))))))
 ((Ll.len l) ≤ (1000000 : Int) ∧ ((Ll.len l) = (Ll.len l) ∧ ((Ll.len l) = (Ll.len l) ∧ ((Ll.len l) = (Ll.len l) ∧ (cond (!((decide ((if rightB l = true then valLo l x else 0) = (if rightB l = true then valLo l x else 0))) && (decide ((if rightB l = true then valHi l x else 0) = (if rightB l = true then valHi l x else 0)))))
 (KK (.b false) (lsMem 0 [([.int .i64, .int .i64], l), ([.int .i64, .int .i64], o)]) 2 [])
 ((Ll.len l) = (Ll.len l) ∧ ((Ll.len l) = (Ll.len l) ∧ (cond (!((decide ((if rightB l = true ∧ x ≤ y then leLo l x y else 0) = (if rightB l = true ∧ x ≤ y then leLo l x y else 0))) && (decide ((if rightB l = true ∧ x ≤ y then leHi l x y else 0) = (if rightB l = true ∧ x ≤ y then leHi l x y else 0)))))
 (KK (.b false) (lsMem 0 [([.int .i64, .int .i64], l), ([.int .i64, .int .i64], o)]) 2 [])
 ((Ll.len l) = (Ll.len l) ∧ ((Ll.len l) = (Ll.len l) ∧ (cond (!((decide ((if rightB l = true ∧ x ≤ y then moLo l x y else 0) = (if rightB l = true ∧ x ≤ y then moLo l x y else 0))) && (decide ((if rightB l = true ∧ x ≤ y then moHi l x y else 0) = (if rightB l = true ∧ x ≤ y then moHi l x y else 0)))))
 (KK (.b false) (lsMem 0 [([.int .i64, .int .i64], l), ([.int .i64, .int .i64], o)]) 2 [])
 ((Ll.len l) = (Ll.len l) ∧ ((Ll.len o) = (Ll.len o) ∧ ((Ll.len l) = (Ll.len l) ∧ ((Ll.len o) = (Ll.len o) ∧ (cond ((aboveB l o) == (aboveB l o))
 ((Ll.len l) = (Ll.len l) ∧ ((Ll.len l) = (Ll.len l) ∧ ((Ll.len l) ≤ (1000000 : Int) ∧ (cond (sameLn l l)
 (KK (.b true) (lsMem 0 [([.int .i64, .int .i64], l), ([.int .i64, .int .i64], o)]) 2 [])
 (KK (.b false) (lsMem 0 [([.int .i64, .int .i64], l), ([.int .i64, .int .i64], o)]) 2 [])))))
 (KK (.b false) (lsMem 0 [([.int .i64, .int .i64], l), ([.int .i64, .int .i64], o)]) 2 []))))))))))))))))))))) := by kernel_rfl
theorem values_pure {m : Nat} (hm : 700 ≤ m) {H : Hp} {nx : Nat} (x y : Int) {v_l : LV} {l : Ll} (hl_l : IsL H nx [.int .i64, .int .i64] l v_l) {v_o : LV} {o : Ll} (hl_o : IsL H nx [.int .i64, .int .i64] o v_o) : Pure Try.prog AW m 3 [.agg [v_l], .agg [v_o], .i .i64 x, .i .i64 y] H nx (.b true) := by
  obtain ⟨ν, n1, n2, n3, n4⟩ := ls_in (fs := fsv) (ov := true) (l := [([.int .i64, .int .i64], l), ([.int .i64, .int .i64], o)]) (lvs := [v_l, v_o]) 0 (fun i x lv e1 e2 => by
    cases i with
    | zero => simp at e1 e2; subst e1 e2; exact hl_l
    | succ i =>
      cases i with
      | zero => simp at e1 e2; subst e1 e2; exact hl_o
      | succ i =>
        simp at e1) rfl
  refine pure_of (n := 20) (d := m - 21) (U := 30) (fs := fsv) (ov := true) (spL_ok (by omega)) spL_aw noLoop_ok (by decide) (by decide) (by omega) (args := [.agg [.ls false 0 (Ll.len l)], .agg [.ls false 1 (Ll.len o)], .i .i64 x, .i .i64 y]) (M := lsMem 0 [([.int .i64, .int .i64], l), ([.int .i64, .int .i64], o)]) (snx := 2) ?_ (VSL.cons ⟨_, rfl, (VSL.cons (n4 0 _ _ rfl rfl) rfl)⟩ (VSL.cons ⟨_, rfl, (VSL.cons (n4 1 _ _ rfl rfl) rfl)⟩ (VSL.cons rfl (VSL.cons rfl rfl)))) (hs_in n2 n3)
  rw [values_eq]
  have hl : Ll.len l = (l.length : Int) := rfl
  have ne : ∀ x : Int, decide (x ≠ x) = false := fun x => decide_eq_false fun h => h rfl
  by_cases h1 : Ll.len l ≤ 26
  · rw [decide_eq_true h1]
    by_cases h2 : Ll.len o ≤ 26
    · rw [decide_eq_true h2]
      by_cases hz : Ll.len l = 0
      · have hn : l = [] := List.length_eq_zero_iff.1 (by omega)
        subst hn
        rw [decide_eq_true hz]
        simp only [ne, cond_false, cond_true, sameLn_self, beq_self_eq_true, Bool.not_true, Bool.not_false, Bool.and_self, Bool.or_self]
        repeat' (first | exact end_b rfl | apply And.intro)
        all_goals first | trivial | omega
      · rw [decide_eq_false hz]
        simp only [ne, cond_false, cond_true, sameLn_self, beq_self_eq_true, Bool.not_true, Bool.not_false, Bool.and_self, Bool.or_self]
        repeat' (first | exact end_b rfl | apply And.intro)
        all_goals first | trivial | omega
    · rw [decide_eq_false h2]
      repeat' (first | exact end_b rfl | apply And.intro)
      all_goals first | trivial | omega
  · rw [decide_eq_false h1]
    repeat' (first | exact end_b rfl | apply And.intro)
    all_goals first | trivial | omega
end Go.Proofs.Ytjemcdjigeijbaa
