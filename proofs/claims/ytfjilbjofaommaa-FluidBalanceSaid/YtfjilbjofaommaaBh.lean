/-
  Layer 3: plain lists of slugs.
-/
import Derived.Test.YtfjilbjofaommaaMc
import Derived.Test.YtfjilbjofaommaaPl
import Derived.Test.YtfjilbjofaommaaYg
set_option linter.unusedSimpArgs false
set_option linter.unusedVariables false
set_option maxRecDepth 100000
namespace Go.Proofs.Ytfjilbjofaommaa
open Go Go.Rx

noncomputable abbrev fspl : Fs where
  i := fun n ls xs => match n, ls, xs with | 1, [l], [] => holeE l | 2, [l], [] => holeV l | 3, [h, c], [] => colE h c | 4, [a, b], [] => dfL a b | 5, [c], [r] => pmN c r c.length | 6, [h, c], [w, v] => pmE h c w v | _, _, _ => 0
  b := fun n ls xs => match n, ls, xs with | 30, [a, b], [] => sameL2 a b | 31, [a, b], [] => decide (dfL a b < (min a.length b.length : Nat)) | _, _, _ => false
  l := fun n ls xs => match n, ls, xs with | 53, [h, c], [w, v] => pmA h c w v | 54, [h, c], [w, v] => pmO h c w v | 50, [l], [] => plainL l | 51, [c], [w, v, r] => nowP c w v r c.length | 52, [c], [r] => outP c r c.length | _, _, _ => []
  rng := rngAt Try.prog
theorem pla_eq (i : Int) (l g : Ll) (T : Al (SV (stdA fspl true))) (M : Al (SO (stdA fspl true))) (KK : Ex → List (SV (stdA fspl true)) → List (SO (stdA fspl true)) → List Ll → Prop) : sCode Try.prog (sCall Try.prog 30 (spOf sp0) noLoop 20) ⟨19, false, noLoop 19⟩ 30 (false :: [false, true, false, true, true]) (bodyAt Try.prog 19 [false, true, false, true, true]) (hdL (bodyAt Try.prog 19 [false, true, false, true, true]) T M 52 1 [(7, .ls false 0 (Ll.len l)), (8, .i .i64 (Ll.len l))] [(0, .list 0 [.int .i64, .int .i64] false l)] [(9, .i .i64 i), (3, .ls true 1 (Ll.len g))] [] [(32, [.int .i64, .int .i64])] [g] []) (outL 1 (tsOf [9, 3] []) [] [] [(32, [.int .i64, .int .i64])] KK) =
  (cond (decide (i < (Ll.len l)))
 ((0 : Int) ≤ i ∧ (i < (Ll.len l) ∧ (i < (Ll.len l) ∧ (cond (decide ((Ll.get l i 1) < (1 : Int)))
 (InK .i64 (i + (1 : Int)) ∧ (KK .normal [(.i .i64 (i + (1 : Int))), (.ls true 1 (Ll.len g))] [] [g]))
 (cond (decide ((Ll.get l i 1) > (1099511627776 : Int)))
 (InK .i64 (i + (1 : Int)) ∧ (KK .normal [(.i .i64 (i + (1 : Int))), (.ls true 1 (Ll.len g))] [] [g]))
 (InK .i64 ((Ll.len g) - (1 : Int)) ∧ (cond (decide (((Ll.len g) - (1 : Int)) ≥ (0 : Int)))
 ((0 : Int) ≤ ((Ll.len g) - (1 : Int)) ∧ (((Ll.len g) - (1 : Int)) < (Ll.len g) ∧ (((Ll.len g) - (1 : Int)) < (Ll.len g) ∧ (cond (decide ((Ll.get g ((Ll.len g) - (1 : Int)) 0) = (Ll.get l i 0)))
 ((0 : Int) ≤ ((Ll.len g) - (1 : Int)) ∧ (((Ll.len g) - (1 : Int)) < (Ll.len g) ∧ (((Ll.len g) - (1 : Int)) < (Ll.len g) ∧ (InK .i64 ((Ll.get g ((Ll.len g) - (1 : Int)) 1) + (Ll.get l i 1)) ∧ ((0 : Int) ≤ ((Ll.len g) - (1 : Int)) ∧ (((Ll.len g) - (1 : Int)) < (Ll.len g) ∧ (((Ll.len g) - (1 : Int)) < (Ll.len g) ∧ (InK .i64 (i + (1 : Int)) ∧ (KK .normal [(.i .i64 (i + (1 : Int))), (.ls true 1 (Ll.len g))] [] [(Ll.set g ((Ll.len g) - (1 : Int)) 1 ((Ll.get g ((Ll.len g) - (1 : Int)) 1) + (Ll.get l i 1)))])))))))))
 ((Ll.len g) = (Ll.len g) ∧ ((Ll.len (g ++ [[(Ll.get l i 0), (Ll.get l i 1)]])) ≤ (1000000 : Int) ∧ (InK .i64 (i + (1 : Int)) ∧ (KK .normal [(.i .i64 (i + (1 : Int))), (.ls true 1 (Ll.len (g ++ [[(Ll.get l i 0), (Ll.get l i 1)]])))] [] [(g ++ [[(Ll.get l i 0), (Ll.get l i 1)]])]))))))))
 ((Ll.len g) = (Ll.len g) ∧ ((Ll.len (g ++ [[(Ll.get l i 0), (Ll.get l i 1)]])) ≤ (1000000 : Int) ∧ (InK .i64 (i + (1 : Int)) ∧ (KK .normal [(.i .i64 (i + (1 : Int))), (.ls true 1 (Ll.len (g ++ [[(Ll.get l i 0), (Ll.get l i 1)]])))] [] [(g ++ [[(Ll.get l i 0), (Ll.get l i 1)]])])))))))))))
 (KK (.exit 0) [(.i .i64 i), (.ls true 1 (Ll.len g))] [] [g])) := by kernel_rfl
theorem pla_go (l : Ll) (i : Int) (g : Ll) (i_0 : Int) (r1 : i_0 = (0 : Int)) (T : Al (SV (stdA fspl true))) (M : Al (SO (stdA fspl true))) (KK : Ex → List (SV (stdA fspl true)) → List (SO (stdA fspl true)) → List Ll → Prop) (p1 : (Ll.len l) ≤ (1000 : Int)) (hI : 0 ≤ i ∧ i ≤ l.length ∧ g = plainP l i.toNat) (hn : ∀ (i' : Int) (g' : Ll), 0 ≤ i' ∧ i' ≤ l.length ∧ g' = plainP l i'.toNat → (2000 - i').toNat < (2000 - i).toNat → KK .normal [.i .i64 i', .ls true 1 (Ll.len g')] [] [g']) (hx1 : KK (.exit 0) [.i .i64 (Ll.len l), .ls true 1 (Ll.len (plainL l))] [] [(plainL l)]) :
    sCode Try.prog (sCall Try.prog 30 (spOf sp0) noLoop 20) ⟨19, false, noLoop 19⟩ 30 (false :: [false, true, false, true, true]) (bodyAt Try.prog 19 [false, true, false, true, true]) (hdL (bodyAt Try.prog 19 [false, true, false, true, true]) T M 52 1 [(7, .ls false 0 (Ll.len l)), (8, .i .i64 (Ll.len l))] [(0, .list 0 [.int .i64, .int .i64] false l)] [(9, .i .i64 i), (3, .ls true 1 (Ll.len g))] [] [(32, [.int .i64, .int .i64])] [g] []) (outL 1 (tsOf [9, 3] []) [] [] [(32, [.int .i64, .int .i64])] KK) := by
  refine Eq.mpr (pla_eq i l g T M KK) ?_
  simp only [cond_iff, InK64]
  obtain ⟨i0, i1, rfl⟩ := hI
  have hl : Ll.len l = (l.length : Int) := rfl
  have hb := plain_b l i.toNat
  have hlG : Ll.len (plainP l i.toNat) = ((plainP l i.toNat).length : Int) := rfl
  by_cases h : i < Ll.len l
  · have e1 : (i + 1).toNat = i.toNat + 1 := by omega
    have hN := hn (i + 1) _ ⟨by omega, by omega, rfl⟩ (by omega)
    rw [e1, plainP_succ i0] at hN
    obtain ⟨hbv, hbl⟩ := hb
    generalize hG : plainP l i.toNat = G at *
    have N1 : Ll.get l i 1 < 1 ∨ 1099511627776 < Ll.get l i 1 → KK .normal [.i .i64 (i + 1), .ls true 1 (Ll.len G)] [] [G] := fun hc => by
      rw [plainS, if_pos hc] at hN; exact hN
    have N2 : ¬ (Ll.get l i 1 < 1 ∨ 1099511627776 < Ll.get l i 1) → (0 ≤ (G.length : Int) - 1 ∧ Ll.get G ((G.length : Int) - 1) 0 = Ll.get l i 0) → KK .normal [.i .i64 (i + 1), .ls true 1 (Ll.len G)] [] [Ll.set G ((G.length : Int) - 1) 1 (Ll.get G ((G.length : Int) - 1) 1 + Ll.get l i 1)] := fun hc hd => by
      rw [plainS, if_neg hc, if_pos hd] at hN
      have : Ll.len (Ll.set G ((G.length : Int) - 1) 1 (Ll.get G ((G.length : Int) - 1) 1 + Ll.get l i 1)) = Ll.len G := by
        show ((List.length (List.set _ _ _) : Nat) : Int) = _
        rw [List.length_set]; rfl
      rw [this] at hN; exact hN
    have N3 : ¬ (Ll.get l i 1 < 1 ∨ 1099511627776 < Ll.get l i 1) → ¬ (0 ≤ (G.length : Int) - 1 ∧ Ll.get G ((G.length : Int) - 1) 0 = Ll.get l i 0) → KK .normal [.i .i64 (i + 1), .ls true 1 (Ll.len (G ++ [[Ll.get l i 0, Ll.get l i 1]]))] [] [G ++ [[Ll.get l i 0, Ll.get l i 1]]] := fun hc hd => by
      rw [plainS, if_neg hc, if_neg hd] at hN; exact hN
    have bv : 0 ≤ (G.length : Int) - 1 → 0 ≤ Ll.get G ((G.length : Int) - 1) 1 ∧ Ll.get G ((G.length : Int) - 1) 1 ≤ 1099511627776000 := fun h0 => by
      have := hbv.2 ((G.length : Int) - 1).toNat (by omega)
      rw [Int.toNat_of_nonneg h0] at this
      omega
    have eL : Ll.len (G ++ [[Ll.get l i 0, Ll.get l i 1]]) ≤ 1000000 := by
      show ((List.length _ : Nat) : Int) ≤ 1000000
      rw [List.length_append, List.length_cons, List.length_nil]; omega
    rw [hlG]
    rw [hlG] at N1 N2
    clear hn hN hx1
    have q01 : 0 ≤ (G.length : Int) ∧ (G.length : Int) ≤ 1000 := by omega
    generalize (G.length : Int) = q at *
    repeat' (first | exact eL | apply And.intro | intro _)
    all_goals first
      | omega
      | exact True.intro
      | exact N1 (by omega)
      | exact N2 (by omega) ⟨by omega, by omega⟩
      | exact N3 (by omega) (by omega)
  · obtain rfl : i = l.length := by omega
    rw [Int.toNat_natCast]
    repeat' (first | exact hx1 | apply And.intro | intro _)
    all_goals first | omega | trivial
abbrev plaF {A : Go.Rx.Alg} : Code → Go.Rx.SS A → (Go.Rx.Ex → Go.Rx.SS A → A.R) → A.R := fun c_ s_ K_ => match s_.T.get 7, s_.T.get 8, s_.H.get 0, s_.T.get 9, s_.T.get 3 with
  | some (.ls false 0 m1), some (.i .i64 m2), some (.list t3 k3 false l), some (.i .i64 i), some (.nils) => bif (((Nat.beq s_.N 52 && Nat.beq s_.nx 1) && Nat.beq t3 0) && decide (k3 = [.int .i64, .int .i64])) then (A.need .eql m1 (A.len l) (A.need .eql m2 (A.len l) (A.need .eql i (A.lit 0) (A.need .leq (A.len l) (A.lit 1000) (K_ (.exit 0) (Go.Rx.hdL c_ s_.T (Go.Rx.kills [] s_.H) 52 1 [(7, .ls false 0 (A.len l)), (8, .i .i64 (A.len l))] [(0, .list 0 [.int .i64, .int .i64] false l)] [(9, .i .i64 (A.len l)), (3, .ls true 1 (A.len (A.appL 50 [l] [])))] [] [(32, [.int .i64, .int .i64])] [(A.appL 50 [l] [])] (Go.Rx.addW ([] ++ []) s_.wr))))))) else A.fail "frame of pla"
  | _, _, _, _, _ => A.fail "pla"
theorem plaF_ok {d : Nat} (hd : 100 ≤ d) : LoopOK (fs := fspl) (ov := true) Try.prog AW d 19 [false, true, false, true, true] false plaF := by
  intro m_ hm_ fn_ c0_ hfn_ hb_ c_ ro_ hro_ hc_ s_ K_ W_ ν_ S_ h_ hs_
  obtain rfl := body_of hfn_ hb_ hc_
  unfold plaF at h_
  split at h_
  · rename_i m1_0 m2_0 t3 k3 l_0 i_0_0 g0 g1 g2 g3 g4
    obtain ⟨m1, rfl⟩ : ∃ q : Int, q = m1_0 := ⟨m1_0, rfl⟩
    obtain ⟨m2, rfl⟩ : ∃ q : Int, q = m2_0 := ⟨m2_0, rfl⟩
    obtain ⟨l, rfl⟩ : ∃ q : Ll, q = l_0 := ⟨l_0, rfl⟩
    obtain ⟨i_0, rfl⟩ : ∃ q : Int, q = i_0_0 := ⟨i_0_0, rfl⟩
    obtain ⟨T_, FN_, M_, snx_, wr_⟩ := s_
    have hN : (((Nat.beq FN_ 52 && Nat.beq snx_ 1) && Nat.beq t3 0) && decide (k3 = [.int .i64, .int .i64])) = true := by
      cases hq : ((((Nat.beq FN_ 52 && Nat.beq snx_ 1) && Nat.beq t3 0) && decide (k3 = [.int .i64, .int .i64])) : Bool) with
      | true => rfl
      | false => (rw [hq] at h_; exact h_.elim)
    rw [hN, cond_true] at h_
    simp only [Bool.and_eq_true, beq_iff, decide_eq_true_eq] at hN
    obtain ⟨⟨⟨rfl, rfl⟩, rfl⟩, rfl⟩ := hN
    obtain ⟨q0, h_⟩ := h_
    obtain rfl : m1 = (Ll.len l) := q0
    obtain ⟨q0, h_⟩ := h_
    obtain rfl : m2 = (Ll.len l) := q0
    obtain ⟨q1, h_⟩ := h_
    have q1 : i_0 = (0 : Int) := q1
    obtain ⟨q2, h_⟩ := h_
    have q2 : (Ll.len l) ≤ (1000 : Int) := q2
    replace h_ : K_ (.exit 0) (hdL (bodyAt Try.prog 19 [false, true, false, true, true]) T_ (kills [] M_) 52 1 [(7, .ls false 0 (Ll.len l)), (8, .i .i64 (Ll.len l))] [(0, .list 0 [.int .i64, .int .i64] false l)] [(9, .i .i64 (Ll.len l)), (3, .ls true 1 (Ll.len (plainL l)))] [] [(32, [.int .i64, .int .i64])] [(plainL l)] (addW ([] ++ []) wr_)) := h_
    have hx1 : K_ (.exit 0) (hdL (bodyAt Try.prog 19 [false, true, false, true, true]) T_ (kills [] M_) 52 1 [(7, .ls false 0 (Ll.len l)), (8, .i .i64 (Ll.len l))] [(0, .list 0 [.int .i64, .int .i64] false l)] [(9, .i .i64 (Ll.len l)), (3, .ls true 1 (Ll.len (plainL l)))] [] [(32, [.int .i64, .int .i64])] [(plainL l)] (addW ([] ++ []) wr_)) := by
      have h2 := h_
      exact h2
    refine loop_ruleL (fs := fspl) (ov := true) (s := ⟨T_, 52, M_, 1, wr_⟩) (X := Int × Ll) (B := []) (mv := []) (kt := [(7, .ls false 0 (Ll.len l)), (8, .i .i64 (Ll.len l))]) (kr := [(0, .list 0 [.int .i64, .int .i64] false l)]) (ty := [(32, [.int .i64, .int .i64])]) (x := (i_0, []))
      (Inv := (fun x_ : Int × Ll => match x_ with | (i, g) => 0 ≤ i ∧ i ≤ l.length ∧ g = plainP l i.toNat)) (μ := (fun x_ : Int × Ll => match x_ with | (i, g) => (2000 - i).toNat)) (ts := tsOf [9, 3] []) (sl := (fun x_ : Int × Ll => match x_ with | (i, g) => [.i .i64 i, .ls true 1 (Ll.len g)])) (bl := (fun x_ : Int × Ll => match x_ with | (i, g) => [])) (ll := (fun x_ : Int × Ll => match x_ with | (i, g) => [g])) (Q := fun e_ vs_ os_ hs_ => K_ e_ (hdL (bodyAt Try.prog 19 [false, true, false, true, true]) T_ (kills [] M_) 52 1 [(7, .ls false 0 (Ll.len l)), (8, .i .i64 (Ll.len l))] [(0, .list 0 [.int .i64, .int .i64] false l)] (((tsOf [9, 3] []) e_).zip vs_) ([].zip os_) [(32, [.int .i64, .int .i64])] hs_ (addW ([] ++ []) wr_)))
      (L := LL) (U := 30) (cs := sCall Try.prog 30 (spOf sp0) noLoop 20) (call := CN Try.prog AW m_) (lp := ⟨19, false, noLoop 19⟩) (root := c0_) (p := [false, true, false, true, true])
      (show CallSOK _ _ from by
        have := sCall_ok (P := Try.prog) (d := m_ - 20) (U := 30) (lp := noLoop) (sp0_ok (fs := fspl) (ov := true) (d := m_ - 20)) (sp0_aw (fs := fspl) (ov := true)) (noLoop_ok) (by decide) rfl 20
        rwa [show 20 + (m_ - 20) = m_ by omega] at this) (ctx_of (g := 19) (rg := false) (at_ := noLoop 19) (fun p rg f h => by cases h) hfn_ hb_ hro_) (by decide) hc_
      (fun x o ho => by cases ho)
      (fun x hx => by cases hx) (fun x hx => by cases hx) (fun x hx => by cases hx)
      (fun x hx => by
        simp only [List.mem_cons, List.not_mem_nil, or_false] at hx
        rcases hx with rfl | rfl
        · exact g0
        · exact g1) (fun x hx => by
        simp only [List.mem_cons, List.not_mem_nil, or_false] at hx
        rcases hx with rfl
        · exact ⟨g2, by simp⟩) ?_ (fun _ _ _ _ _ h => h) ?_ ?_ ?_ hs_
    · rintro ⟨i, g⟩ hI
      exact pla_go l i g i_0 q1 T_ (kills [] M_) _ q2 hI (fun i' g' ha hb => ⟨(i', g'), ha, hb, rfl, rfl, rfl⟩) (⟨by simp [SO.mine], hx1⟩)
    · show 0 ≤ i_0 ∧ i_0 ≤ l.length ∧ ([] : Ll) = plainP l i_0.toNat
      exact ⟨by omega, by omega, by rw [q1]; rfl⟩
    · show (2000 - i_0).toNat < LL
      exact Nat.lt_of_le_of_lt (show _ ≤ 2000 by omega) (by decide)
    · exact ⟨⟨[.i .i64 i_0, .nils], [], [none], [none], by simp [gets, tsOf, g0, g1, g2, g3, g4], by simp [gets, g0, g1, g2, g3, g4], rfl, rfl, by simp [listsOf] <;> rfl⟩⟩
  · exact h_.elim
abbrev lpPla {A : Go.Rx.Alg} : Nat → Go.Rx.LoopS A := Go.Rx.lpOf [(19, [false, true, false, true, true], false, plaF)]
theorem lpPla_ok {d : Nat} (hd : 100 ≤ d) : LoopsAll (fs := fspl) (ov := true) Try.prog AW d lpPla := lpOf_ok fun x hx => by
  simp only [List.mem_cons, List.not_mem_nil, or_false] at hx
  rcases hx with rfl
  · exact plaF_ok (by omega)
theorem plaF_eq (l : Ll) (KK : KS (stdA fspl true)) : sFunc Try.prog 30 (sCall Try.prog 30 (spOf sp0) lpPla 20) lpPla 19 [.ls false 0 (Ll.len l)] (lsMem 0 [([.int .i64, .int .i64], l)]) 1 KK =
  ((Ll.len l) = (Ll.len l) ∧ ((Ll.len l) = (Ll.len l) ∧ ((0 : Int) = (0 : Int) ∧ ((Ll.len l) ≤ (1000 : Int) ∧ ((Ll.len (plainL l)) = (Ll.len (plainL l)) ∧ (KK (.ls true 1 (Ll.len (plainL l))) (Al.set (lsMem 0 [([.int .i64, .int .i64], l)]) 1 (some (.list 32 [.int .i64, .int .i64] true (plainL l)))) 2 [])))))) := by kernel_rfl
theorem plaF_gives {m : Nat} (hm : 200 ≤ m) {H : Hp} {nx : Nat} {v_l : LV} {l : Ll} (hl_l : IsL H nx [.int .i64, .int .i64] l v_l) (p1 : (Ll.len l) ≤ (1000 : Int)) : Gives Try.prog AW m 19 [v_l] H nx false 32 [.int .i64, .int .i64] (plainL l) := by
  obtain ⟨ν, n1, n2, n3, n4⟩ := ls_in (fs := fspl) (ov := true) (l := [([.int .i64, .int .i64], l)]) (lvs := [v_l]) 0 (fun i x lv e1 e2 => by
    cases i with
    | zero => simp at e1 e2; subst e1 e2; exact hl_l
    | succ i =>
      simp at e1) rfl
  refine gives_of (n := 20) (d := m - 21) (U := 30) (fs := fspl) (ov := true) sp0_ok sp0_aw (lpPla_ok (by omega)) (by decide) (by decide) (by omega) (args := [.ls false 0 (Ll.len l)]) (M := lsMem 0 [([.int .i64, .int .i64], l)]) (snx := 1) ?_ ?_ (VSL.cons (n4 0 _ _ rfl rfl) rfl) (hs_in n2 n3)
  rw [plaF_eq]
  · simp only [cond_iff, InK64]
    have hl : Ll.len l = (l.length : Int) := rfl
    repeat' (first | exact end_l (w := false) rfl | apply And.intro | intro _)
    all_goals first | omega | trivial
  · exact plainL_rows l
abbrev plaFS {A : Go.Rx.Alg} : List (Go.Rx.SV A) → Go.Rx.SH A → Nat → Go.Rx.KS A → A.R := fun args_ M_ snx_ K_ => match args_ with
  | [x_l] => (match Go.Rx.lsArg M_ [.int .i64, .int .i64] x_l with | some (l, n_l) => (A.need .eql n_l (A.len l) (A.need .leq (A.len l) (A.lit 1000) ((M_.set snx_ (some (.list 32 [.int .i64, .int .i64] true (A.appL 50 [l] [])))).force fun M_ => K_ (.ls true snx_ (A.len (A.appL 50 [l] []))) M_ (snx_ + 1) []))) | none => A.fail "plaF")
  | _ => A.fail "plaF"
theorem plaFS_ok {ov : Bool} {d : Nat} (hd : 200 ≤ d) : SpecOK (fs := fspl) (ov := ov) Try.prog AW d 19 plaFS := by
  intro m_ hm_ args_ M_ snx_ K_ h_ ν_ largs_ H_ nx_ ha_ hM_
  unfold plaFS at h_
  split at h_
  · rename_i x_l
    obtain ⟨v_l, r1, rfl, hx_l, rfl⟩ := ha_
    split at h_
    · rename_i l n_l q_l
      obtain ⟨e_l, h_⟩ := h_
      obtain ⟨p1, h_⟩ := h_
      exact gives_got (plaF_gives (by omega) (lsArg_ok hM_ hx_l q_l e_l) p1) hM_ h_
    · exact h_.elim
  · exact h_.elim
theorem rpl_eq (i : Int) (l g : Ll) (T : Al (SV (stdA fspl true))) (M : Al (SO (stdA fspl true))) (KK : Ex → List (SV (stdA fspl true)) → List (SO (stdA fspl true)) → List Ll → Prop) : sCode Try.prog (sCall Try.prog 30 (spOf sp0) noLoop 20) ⟨37, false, noLoop 37⟩ 30 (false :: [false, true, false, true, true]) (bodyAt Try.prog 37 [false, true, false, true, true]) (hdL (bodyAt Try.prog 37 [false, true, false, true, true]) T M 67 1 [(0, .ls false 0 (Ll.len l))] [(0, .list 0 [.int .i64, .int .i64] false l)] [(4, .i .i64 i), (3, .ls true 1 (Ll.len g))] [] [(32, [.int .i64, .int .i64])] [g] []) (outL 1 (tsOf [4, 3] []) [] [] [(32, [.int .i64, .int .i64])] KK) =
  (cond (decide (i < (Ll.len l)))
 (InK .i64 ((Ll.len g) - (1 : Int)) ∧ ((0 : Int) ≤ i ∧ (i < (Ll.len l) ∧ (i < (Ll.len l) ∧ (cond (decide ((Ll.get l i 1) < (1 : Int)))
 (InK .i64 (i + (1 : Int)) ∧ (KK .normal [(.i .i64 (i + (1 : Int))), (.ls true 1 (Ll.len g))] [] [g]))
 ((0 : Int) ≤ i ∧ (i < (Ll.len l) ∧ (i < (Ll.len l) ∧ (cond (decide ((Ll.get l i 1) > (1099511627776 : Int)))
 (InK .i64 (i + (1 : Int)) ∧ (KK .normal [(.i .i64 (i + (1 : Int))), (.ls true 1 (Ll.len g))] [] [g]))
 (cond (decide (((Ll.len g) - (1 : Int)) ≥ (0 : Int)))
 ((0 : Int) ≤ ((Ll.len g) - (1 : Int)) ∧ (((Ll.len g) - (1 : Int)) < (Ll.len g) ∧ (((Ll.len g) - (1 : Int)) < (Ll.len g) ∧ ((0 : Int) ≤ i ∧ (i < (Ll.len l) ∧ (i < (Ll.len l) ∧ (cond (decide ((Ll.get g ((Ll.len g) - (1 : Int)) 0) = (Ll.get l i 0)))
 ((0 : Int) ≤ ((Ll.len g) - (1 : Int)) ∧ (((Ll.len g) - (1 : Int)) < (Ll.len g) ∧ (((Ll.len g) - (1 : Int)) < (Ll.len g) ∧ ((0 : Int) ≤ i ∧ (i < (Ll.len l) ∧ (i < (Ll.len l) ∧ (InK .i64 ((Ll.get g ((Ll.len g) - (1 : Int)) 1) + (Ll.get l i 1)) ∧ ((0 : Int) ≤ ((Ll.len g) - (1 : Int)) ∧ (((Ll.len g) - (1 : Int)) < (Ll.len g) ∧ (((Ll.len g) - (1 : Int)) < (Ll.len g) ∧ (InK .i64 (i + (1 : Int)) ∧ (KK .normal [(.i .i64 (i + (1 : Int))), (.ls true 1 (Ll.len g))] [] [(Ll.set g ((Ll.len g) - (1 : Int)) 1 ((Ll.get g ((Ll.len g) - (1 : Int)) 1) + (Ll.get l i 1)))]))))))))))))
 ((0 : Int) ≤ i ∧ (i < (Ll.len l) ∧ (i < (Ll.len l) ∧ ((Ll.len g) = (Ll.len g) ∧ ((Ll.len (g ++ [[(Ll.get l i 0), (Ll.get l i 1)]])) ≤ (1000000 : Int) ∧ (InK .i64 (i + (1 : Int)) ∧ (KK .normal [(.i .i64 (i + (1 : Int))), (.ls true 1 (Ll.len (g ++ [[(Ll.get l i 0), (Ll.get l i 1)]])))] [] [(g ++ [[(Ll.get l i 0), (Ll.get l i 1)]])]))))))))))))))
 ((0 : Int) ≤ i ∧ (i < (Ll.len l) ∧ (i < (Ll.len l) ∧ ((Ll.len g) = (Ll.len g) ∧ ((Ll.len (g ++ [[(Ll.get l i 0), (Ll.get l i 1)]])) ≤ (1000000 : Int) ∧ (InK .i64 (i + (1 : Int)) ∧ (KK .normal [(.i .i64 (i + (1 : Int))), (.ls true 1 (Ll.len (g ++ [[(Ll.get l i 0), (Ll.get l i 1)]])))] [] [(g ++ [[(Ll.get l i 0), (Ll.get l i 1)]])])))))))))))))))))
 (KK (.exit 0) [(.i .i64 i), (.ls true 1 (Ll.len g))] [] [g])) := by kernel_rfl
theorem rpl_go (l : Ll) (i : Int) (g : Ll) (i_0 : Int) (r1 : i_0 = (0 : Int)) (T : Al (SV (stdA fspl true))) (M : Al (SO (stdA fspl true))) (KK : Ex → List (SV (stdA fspl true)) → List (SO (stdA fspl true)) → List Ll → Prop) (p1 : (Ll.len l) ≤ (1000 : Int)) (hI : 0 ≤ i ∧ i ≤ l.length ∧ g = plainP l i.toNat) (hn : ∀ (i' : Int) (g' : Ll), 0 ≤ i' ∧ i' ≤ l.length ∧ g' = plainP l i'.toNat → (2000 - i').toNat < (2000 - i).toNat → KK .normal [.i .i64 i', .ls true 1 (Ll.len g')] [] [g']) (hx1 : KK (.exit 0) [.i .i64 (Ll.len l), .ls true 1 (Ll.len (plainL l))] [] [(plainL l)]) :
    sCode Try.prog (sCall Try.prog 30 (spOf sp0) noLoop 20) ⟨37, false, noLoop 37⟩ 30 (false :: [false, true, false, true, true]) (bodyAt Try.prog 37 [false, true, false, true, true]) (hdL (bodyAt Try.prog 37 [false, true, false, true, true]) T M 67 1 [(0, .ls false 0 (Ll.len l))] [(0, .list 0 [.int .i64, .int .i64] false l)] [(4, .i .i64 i), (3, .ls true 1 (Ll.len g))] [] [(32, [.int .i64, .int .i64])] [g] []) (outL 1 (tsOf [4, 3] []) [] [] [(32, [.int .i64, .int .i64])] KK) := by
  refine Eq.mpr (rpl_eq i l g T M KK) ?_
  simp only [cond_iff, InK64]
  obtain ⟨i0, i1, rfl⟩ := hI
  have hl : Ll.len l = (l.length : Int) := rfl
  have hb := plain_b l i.toNat
  have hlG : Ll.len (plainP l i.toNat) = ((plainP l i.toNat).length : Int) := rfl
  by_cases h : i < Ll.len l
  · have e1 : (i + 1).toNat = i.toNat + 1 := by omega
    have hN := hn (i + 1) _ ⟨by omega, by omega, rfl⟩ (by omega)
    rw [e1, plainP_succ i0] at hN
    obtain ⟨hbv, hbl⟩ := hb
    generalize hG : plainP l i.toNat = G at *
    have N1 : Ll.get l i 1 < 1 ∨ 1099511627776 < Ll.get l i 1 → KK .normal [.i .i64 (i + 1), .ls true 1 (Ll.len G)] [] [G] := fun hc => by
      rw [plainS, if_pos hc] at hN; exact hN
    have N2 : ¬ (Ll.get l i 1 < 1 ∨ 1099511627776 < Ll.get l i 1) → (0 ≤ (G.length : Int) - 1 ∧ Ll.get G ((G.length : Int) - 1) 0 = Ll.get l i 0) → KK .normal [.i .i64 (i + 1), .ls true 1 (Ll.len G)] [] [Ll.set G ((G.length : Int) - 1) 1 (Ll.get G ((G.length : Int) - 1) 1 + Ll.get l i 1)] := fun hc hd => by
      rw [plainS, if_neg hc, if_pos hd] at hN
      have : Ll.len (Ll.set G ((G.length : Int) - 1) 1 (Ll.get G ((G.length : Int) - 1) 1 + Ll.get l i 1)) = Ll.len G := by
        show ((List.length (List.set _ _ _) : Nat) : Int) = _
        rw [List.length_set]; rfl
      rw [this] at hN; exact hN
    have N3 : ¬ (Ll.get l i 1 < 1 ∨ 1099511627776 < Ll.get l i 1) → ¬ (0 ≤ (G.length : Int) - 1 ∧ Ll.get G ((G.length : Int) - 1) 0 = Ll.get l i 0) → KK .normal [.i .i64 (i + 1), .ls true 1 (Ll.len (G ++ [[Ll.get l i 0, Ll.get l i 1]]))] [] [G ++ [[Ll.get l i 0, Ll.get l i 1]]] := fun hc hd => by
      rw [plainS, if_neg hc, if_neg hd] at hN; exact hN
    have bv : 0 ≤ (G.length : Int) - 1 → 0 ≤ Ll.get G ((G.length : Int) - 1) 1 ∧ Ll.get G ((G.length : Int) - 1) 1 ≤ 1099511627776000 := fun h0 => by
      have := hbv.2 ((G.length : Int) - 1).toNat (by omega)
      rw [Int.toNat_of_nonneg h0] at this
      omega
    have eL : Ll.len (G ++ [[Ll.get l i 0, Ll.get l i 1]]) ≤ 1000000 := by
      show ((List.length _ : Nat) : Int) ≤ 1000000
      rw [List.length_append, List.length_cons, List.length_nil]; omega
    rw [hlG]
    rw [hlG] at N1 N2
    clear hn hN hx1
    have q01 : 0 ≤ (G.length : Int) ∧ (G.length : Int) ≤ 1000 := by omega
    generalize (G.length : Int) = q at *
    repeat' (first | exact eL | apply And.intro | intro _)
    all_goals first
      | omega
      | exact True.intro
      | exact N1 (by omega)
      | exact N2 (by omega) ⟨by omega, by omega⟩
      | exact N3 (by omega) (by omega)
  · obtain rfl : i = l.length := by omega
    rw [Int.toNat_natCast]
    repeat' (first | exact hx1 | apply And.intro | intro _)
    all_goals first | omega | trivial
abbrev rplF {A : Go.Rx.Alg} : Code → Go.Rx.SS A → (Go.Rx.Ex → Go.Rx.SS A → A.R) → A.R := fun c_ s_ K_ => match s_.T.get 0, s_.H.get 0, s_.T.get 4, s_.T.get 3 with
  | some (.ls false 0 m1), some (.list t2 k2 false l), some (.i .i64 i), some (.nils) => bif (((Nat.beq s_.N 67 && Nat.beq s_.nx 1) && Nat.beq t2 0) && decide (k2 = [.int .i64, .int .i64])) then (A.need .eql m1 (A.len l) (A.need .eql i (A.lit 0) (A.need .leq (A.len l) (A.lit 1000) (K_ (.exit 0) (Go.Rx.hdL c_ s_.T (Go.Rx.kills [] s_.H) 67 1 [(0, .ls false 0 (A.len l))] [(0, .list 0 [.int .i64, .int .i64] false l)] [(4, .i .i64 (A.len l)), (3, .ls true 1 (A.len (A.appL 50 [l] [])))] [] [(32, [.int .i64, .int .i64])] [(A.appL 50 [l] [])] (Go.Rx.addW ([] ++ []) s_.wr)))))) else A.fail "frame of rpl"
  | _, _, _, _ => A.fail "rpl"
theorem rplF_ok {d : Nat} (hd : 100 ≤ d) : LoopOK (fs := fspl) (ov := true) Try.prog AW d 37 [false, true, false, true, true] false rplF := by
  intro m_ hm_ fn_ c0_ hfn_ hb_ c_ ro_ hro_ hc_ s_ K_ W_ ν_ S_ h_ hs_
  obtain rfl := body_of hfn_ hb_ hc_
  unfold rplF at h_
  split at h_
  · rename_i m1_0 t2 k2 l_0 i_0_0 g0 g1 g2 g3
    obtain ⟨m1, rfl⟩ : ∃ q : Int, q = m1_0 := ⟨m1_0, rfl⟩
    obtain ⟨l, rfl⟩ : ∃ q : Ll, q = l_0 := ⟨l_0, rfl⟩
    obtain ⟨i_0, rfl⟩ : ∃ q : Int, q = i_0_0 := ⟨i_0_0, rfl⟩
    obtain ⟨T_, FN_, M_, snx_, wr_⟩ := s_
    have hN : (((Nat.beq FN_ 67 && Nat.beq snx_ 1) && Nat.beq t2 0) && decide (k2 = [.int .i64, .int .i64])) = true := by
      cases hq : ((((Nat.beq FN_ 67 && Nat.beq snx_ 1) && Nat.beq t2 0) && decide (k2 = [.int .i64, .int .i64])) : Bool) with
      | true => rfl
      | false => (rw [hq] at h_; exact h_.elim)
    rw [hN, cond_true] at h_
    simp only [Bool.and_eq_true, beq_iff, decide_eq_true_eq] at hN
    obtain ⟨⟨⟨rfl, rfl⟩, rfl⟩, rfl⟩ := hN
    obtain ⟨q0, h_⟩ := h_
    obtain rfl : m1 = (Ll.len l) := q0
    obtain ⟨q1, h_⟩ := h_
    have q1 : i_0 = (0 : Int) := q1
    obtain ⟨q2, h_⟩ := h_
    have q2 : (Ll.len l) ≤ (1000 : Int) := q2
    replace h_ : K_ (.exit 0) (hdL (bodyAt Try.prog 37 [false, true, false, true, true]) T_ (kills [] M_) 67 1 [(0, .ls false 0 (Ll.len l))] [(0, .list 0 [.int .i64, .int .i64] false l)] [(4, .i .i64 (Ll.len l)), (3, .ls true 1 (Ll.len (plainL l)))] [] [(32, [.int .i64, .int .i64])] [(plainL l)] (addW ([] ++ []) wr_)) := h_
    have hx1 : K_ (.exit 0) (hdL (bodyAt Try.prog 37 [false, true, false, true, true]) T_ (kills [] M_) 67 1 [(0, .ls false 0 (Ll.len l))] [(0, .list 0 [.int .i64, .int .i64] false l)] [(4, .i .i64 (Ll.len l)), (3, .ls true 1 (Ll.len (plainL l)))] [] [(32, [.int .i64, .int .i64])] [(plainL l)] (addW ([] ++ []) wr_)) := by
      have h2 := h_
      exact h2
    refine loop_ruleL (fs := fspl) (ov := true) (s := ⟨T_, 67, M_, 1, wr_⟩) (X := Int × Ll) (B := []) (mv := []) (kt := [(0, .ls false 0 (Ll.len l))]) (kr := [(0, .list 0 [.int .i64, .int .i64] false l)]) (ty := [(32, [.int .i64, .int .i64])]) (x := (i_0, []))
      (Inv := (fun x_ : Int × Ll => match x_ with | (i, g) => 0 ≤ i ∧ i ≤ l.length ∧ g = plainP l i.toNat)) (μ := (fun x_ : Int × Ll => match x_ with | (i, g) => (2000 - i).toNat)) (ts := tsOf [4, 3] []) (sl := (fun x_ : Int × Ll => match x_ with | (i, g) => [.i .i64 i, .ls true 1 (Ll.len g)])) (bl := (fun x_ : Int × Ll => match x_ with | (i, g) => [])) (ll := (fun x_ : Int × Ll => match x_ with | (i, g) => [g])) (Q := fun e_ vs_ os_ hs_ => K_ e_ (hdL (bodyAt Try.prog 37 [false, true, false, true, true]) T_ (kills [] M_) 67 1 [(0, .ls false 0 (Ll.len l))] [(0, .list 0 [.int .i64, .int .i64] false l)] (((tsOf [4, 3] []) e_).zip vs_) ([].zip os_) [(32, [.int .i64, .int .i64])] hs_ (addW ([] ++ []) wr_)))
      (L := LL) (U := 30) (cs := sCall Try.prog 30 (spOf sp0) noLoop 20) (call := CN Try.prog AW m_) (lp := ⟨37, false, noLoop 37⟩) (root := c0_) (p := [false, true, false, true, true])
      (show CallSOK _ _ from by
        have := sCall_ok (P := Try.prog) (d := m_ - 20) (U := 30) (lp := noLoop) (sp0_ok (fs := fspl) (ov := true) (d := m_ - 20)) (sp0_aw (fs := fspl) (ov := true)) (noLoop_ok) (by decide) rfl 20
        rwa [show 20 + (m_ - 20) = m_ by omega] at this) (ctx_of (g := 37) (rg := false) (at_ := noLoop 37) (fun p rg f h => by cases h) hfn_ hb_ hro_) (by decide) hc_
      (fun x o ho => by cases ho)
      (fun x hx => by cases hx) (fun x hx => by cases hx) (fun x hx => by cases hx)
      (fun x hx => by
        simp only [List.mem_cons, List.not_mem_nil, or_false] at hx
        rcases hx with rfl
        · exact g0) (fun x hx => by
        simp only [List.mem_cons, List.not_mem_nil, or_false] at hx
        rcases hx with rfl
        · exact ⟨g1, by simp⟩) ?_ (fun _ _ _ _ _ h => h) ?_ ?_ ?_ hs_
    · rintro ⟨i, g⟩ hI
      exact rpl_go l i g i_0 q1 T_ (kills [] M_) _ q2 hI (fun i' g' ha hb => ⟨(i', g'), ha, hb, rfl, rfl, rfl⟩) (⟨by simp [SO.mine], hx1⟩)
    · show 0 ≤ i_0 ∧ i_0 ≤ l.length ∧ ([] : Ll) = plainP l i_0.toNat
      exact ⟨by omega, by omega, by rw [q1]; rfl⟩
    · show (2000 - i_0).toNat < LL
      exact Nat.lt_of_le_of_lt (show _ ≤ 2000 by omega) (by decide)
    · exact ⟨⟨[.i .i64 i_0, .nils], [], [none], [none], by simp [gets, tsOf, g0, g1, g2, g3], by simp [gets, g0, g1, g2, g3], rfl, rfl, by simp [listsOf] <;> rfl⟩⟩
  · exact h_.elim
abbrev lpRpl {A : Go.Rx.Alg} : Nat → Go.Rx.LoopS A := Go.Rx.lpOf [(37, [false, true, false, true, true], false, rplF)]
theorem lpRpl_ok {d : Nat} (hd : 100 ≤ d) : LoopsAll (fs := fspl) (ov := true) Try.prog AW d lpRpl := lpOf_ok fun x hx => by
  simp only [List.mem_cons, List.not_mem_nil, or_false] at hx
  rcases hx with rfl
  · exact rplF_ok (by omega)
theorem rplF_eq (l : Ll) (KK : KS (stdA fspl true)) : sFunc Try.prog 30 (sCall Try.prog 30 (spOf sp0) lpRpl 20) lpRpl 37 [.ls false 0 (Ll.len l)] (lsMem 0 [([.int .i64, .int .i64], l)]) 1 KK =
  ((Ll.len l) = (Ll.len l) ∧ ((0 : Int) = (0 : Int) ∧ ((Ll.len l) ≤ (1000 : Int) ∧ ((Ll.len (plainL l)) = (Ll.len (plainL l)) ∧ (KK (.ls true 1 (Ll.len (plainL l))) (Al.set (lsMem 0 [([.int .i64, .int .i64], l)]) 1 (some (.list 32 [.int .i64, .int .i64] true (plainL l)))) 2 []))))) := by kernel_rfl
theorem rplF_gives {m : Nat} (hm : 200 ≤ m) {H : Hp} {nx : Nat} {v_l : LV} {l : Ll} (hl_l : IsL H nx [.int .i64, .int .i64] l v_l) (p1 : (Ll.len l) ≤ (1000 : Int)) : Gives Try.prog AW m 37 [v_l] H nx false 32 [.int .i64, .int .i64] (plainL l) := by
  obtain ⟨ν, n1, n2, n3, n4⟩ := ls_in (fs := fspl) (ov := true) (l := [([.int .i64, .int .i64], l)]) (lvs := [v_l]) 0 (fun i x lv e1 e2 => by
    cases i with
    | zero => simp at e1 e2; subst e1 e2; exact hl_l
    | succ i =>
      simp at e1) rfl
  refine gives_of (n := 20) (d := m - 21) (U := 30) (fs := fspl) (ov := true) sp0_ok sp0_aw (lpRpl_ok (by omega)) (by decide) (by decide) (by omega) (args := [.ls false 0 (Ll.len l)]) (M := lsMem 0 [([.int .i64, .int .i64], l)]) (snx := 1) ?_ ?_ (VSL.cons (n4 0 _ _ rfl rfl) rfl) (hs_in n2 n3)
  rw [rplF_eq]
  · simp only [cond_iff, InK64]
    have hl : Ll.len l = (l.length : Int) := rfl
    repeat' (first | exact end_l (w := false) rfl | apply And.intro | intro _)
    all_goals first | omega | trivial
  · exact plainL_rows l
abbrev rplFS {A : Go.Rx.Alg} : List (Go.Rx.SV A) → Go.Rx.SH A → Nat → Go.Rx.KS A → A.R := fun args_ M_ snx_ K_ => match args_ with
  | [x_l] => (match Go.Rx.lsArg M_ [.int .i64, .int .i64] x_l with | some (l, n_l) => (A.need .eql n_l (A.len l) (A.need .leq (A.len l) (A.lit 1000) ((M_.set snx_ (some (.list 32 [.int .i64, .int .i64] true (A.appL 50 [l] [])))).force fun M_ => K_ (.ls true snx_ (A.len (A.appL 50 [l] []))) M_ (snx_ + 1) []))) | none => A.fail "rplF")
  | _ => A.fail "rplF"
theorem rplFS_ok {ov : Bool} {d : Nat} (hd : 200 ≤ d) : SpecOK (fs := fspl) (ov := ov) Try.prog AW d 37 rplFS := by
  intro m_ hm_ args_ M_ snx_ K_ h_ ν_ largs_ H_ nx_ ha_ hM_
  unfold rplFS at h_
  split at h_
  · rename_i x_l
    obtain ⟨v_l, r1, rfl, hx_l, rfl⟩ := ha_
    split at h_
    · rename_i l n_l q_l
      obtain ⟨e_l, h_⟩ := h_
      obtain ⟨p1, h_⟩ := h_
      exact gives_got (rplF_gives (by omega) (lsArg_ok hM_ hx_l q_l e_l) p1) hM_ h_
    · exact h_.elim
  · exact h_.elim
theorem ss_eq (i : Int) (a b : Ll) (T : Al (SV (stdA fspl true))) (M : Al (SO (stdA fspl true))) (KK : Ex → List (SV (stdA fspl true)) → List (SO (stdA fspl true)) → List Ll → Prop) : sCode Try.prog (sCall Try.prog 30 (spOf sp0) noLoop 20) ⟨17, false, noLoop 17⟩ 30 (false :: [false, true, false, true]) (bodyAt Try.prog 17 [false, true, false, true]) (hdL (bodyAt Try.prog 17 [false, true, false, true]) T M 32 2 [(0, .ls false 0 (Ll.len a)), (1, .ls false 1 (Ll.len b))] [(0, .list 0 [.int .i64, .int .i64] false a), (1, .list 0 [.int .i64, .int .i64] false b)] [(5, .i .i64 i)] [] [] [] []) (outL 2 (tsOf [5] [4]) [] [] [] KK) =
  (cond (decide (i < (Ll.len a)))
 (cond (decide (i < (Ll.len b)))
 ((0 : Int) ≤ i ∧ (i < (Ll.len a) ∧ (i < (Ll.len a) ∧ ((0 : Int) ≤ i ∧ (i < (Ll.len b) ∧ (i < (Ll.len b) ∧ (cond (!((decide ((Ll.get a i 0) = (Ll.get b i 0))) && (decide ((Ll.get a i 1) = (Ll.get b i 1)))))
 (KK .ret [(.b false)] [] [])
 (InK .i64 (i + (1 : Int)) ∧ (KK .normal [(.i .i64 (i + (1 : Int)))] [] [])))))))))
 (KK (.exit 0) [(.i .i64 i)] [] []))
 (KK (.exit 0) [(.i .i64 i)] [] [])) := by kernel_rfl
theorem ss_go (a : Ll) (b : Ll) (i : Int) (i_0 : Int) (r1 : i_0 = (0 : Int)) (T : Al (SV (stdA fspl true))) (M : Al (SO (stdA fspl true))) (KK : Ex → List (SV (stdA fspl true)) → List (SO (stdA fspl true)) → List Ll → Prop) (p1 : (Ll.len a) ≤ (1000000 : Int)) (hI : 0 ≤ i ∧ i ≤ dfL a b) (hn : ∀ (i' : Int), 0 ≤ i' ∧ i' ≤ dfL a b → (2000000 - i').toNat < (2000000 - i).toNat → KK .normal [.i .i64 i'] [] []) (hx1 : (decide (dfL a b < (min a.length b.length : Nat))) = true → KK .ret [.b false] [] []) (hx2 : (decide (dfL a b < (min a.length b.length : Nat))) = false → KK (.exit 0) [.i .i64 (dfL a b)] [] []) :
    sCode Try.prog (sCall Try.prog 30 (spOf sp0) noLoop 20) ⟨17, false, noLoop 17⟩ 30 (false :: [false, true, false, true]) (bodyAt Try.prog 17 [false, true, false, true]) (hdL (bodyAt Try.prog 17 [false, true, false, true]) T M 32 2 [(0, .ls false 0 (Ll.len a)), (1, .ls false 1 (Ll.len b))] [(0, .list 0 [.int .i64, .int .i64] false a), (1, .list 0 [.int .i64, .int .i64] false b)] [(5, .i .i64 i)] [] [] [] []) (outL 2 (tsOf [5] [4]) [] [] [] KK) := by
  refine Eq.mpr (ss_eq i a b T M KK) ?_
  have hl : Ll.len a = (a.length : Int) := rfl
  have hl2 : Ll.len b = (b.length : Int) := rfl
  obtain ⟨i0, i1⟩ := hI
  obtain ⟨_, a2, _, _⟩ := leastN_spec (fun j => !rowE2 a b j) (min a.length b.length) 0
  have a3 : dfL a b ≤ (min a.length b.length : Nat) := by unfold dfL; omega
  by_cases h : i < Ll.len a
  · rw [decide_eq_true h]
    by_cases h2 : i < Ll.len b
    · rw [decide_eq_true h2]
      have hs := leastN_step (p := fun j => !rowE2 a b j) (k := min a.length b.length) i0 i1 (by omega)
      have key : cond (!rowE2 a b i) (KK .ret [.b false] [] []) (InK .i64 (i + 1) ∧ KK .normal [.i .i64 (i + 1)] [] []) := by
        cases hb : rowE2 a b i with
        | false => exact hx1 (decide_eq_true (by have : dfL a b = i := hs.1 (by rw [hb]; rfl); omega))
        | true => exact ⟨by rw [InK64]; omega, hn (i + 1) ⟨by omega, hs.2 (by rw [hb]; rfl)⟩ (by omega)⟩
      repeat' (first | exact key | apply And.intro)
      all_goals first | trivial | omega
    · rw [decide_eq_false h2]
      obtain rfl : i = dfL a b := by omega
      exact hx2 (decide_eq_false (by omega))
  · rw [decide_eq_false h]
    obtain rfl : i = dfL a b := by omega
    exact hx2 (decide_eq_false (by omega))
abbrev ssF {A : Go.Rx.Alg} : Code → Go.Rx.SS A → (Go.Rx.Ex → Go.Rx.SS A → A.R) → A.R := fun c_ s_ K_ => match s_.T.get 0, s_.T.get 1, s_.H.get 0, s_.H.get 1, s_.T.get 5 with
  | some (.ls false 0 m1), some (.ls false 1 m2), some (.list t3 k3 false a), some (.list t4 k4 false b), some (.i .i64 i) => bif (((((Nat.beq s_.N 32 && Nat.beq s_.nx 2) && Nat.beq t3 0) && decide (k3 = [.int .i64, .int .i64])) && Nat.beq t4 0) && decide (k4 = [.int .i64, .int .i64])) then (A.need .eql m1 (A.len a) (A.need .eql m2 (A.len b) (A.need .eql i (A.lit 0) (A.need .leq (A.len a) (A.lit 1000000) ((A.br (A.appB 31 [a, b] []) (fun _ => K_ .ret (Go.Rx.hdL c_ s_.T (Go.Rx.kills [] s_.H) 32 2 [(0, .ls false 0 (A.len a)), (1, .ls false 1 (A.len b))] [(0, .list 0 [.int .i64, .int .i64] false a), (1, .list 0 [.int .i64, .int .i64] false b)] [(4, .b (A.ofB false))] [] [] [] (Go.Rx.addW ([] ++ []) s_.wr))) (fun _ => K_ (.exit 0) (Go.Rx.hdL c_ s_.T (Go.Rx.kills [] s_.H) 32 2 [(0, .ls false 0 (A.len a)), (1, .ls false 1 (A.len b))] [(0, .list 0 [.int .i64, .int .i64] false a), (1, .list 0 [.int .i64, .int .i64] false b)] [(5, .i .i64 (A.app 4 [a, b] []))] [] [] [] (Go.Rx.addW ([] ++ []) s_.wr))))))))) else A.fail "frame of ss"
  | _, _, _, _, _ => A.fail "ss"
theorem ssF_ok {d : Nat} (hd : 100 ≤ d) : LoopOK (fs := fspl) (ov := true) Try.prog AW d 17 [false, true, false, true] false ssF := by
  intro m_ hm_ fn_ c0_ hfn_ hb_ c_ ro_ hro_ hc_ s_ K_ W_ ν_ S_ h_ hs_
  obtain rfl := body_of hfn_ hb_ hc_
  unfold ssF at h_
  split at h_
  · rename_i m1_0 m2_0 t3 k3 a_0 t4 k4 b_0 i_0_0 g0 g1 g2 g3 g4
    obtain ⟨m1, rfl⟩ : ∃ q : Int, q = m1_0 := ⟨m1_0, rfl⟩
    obtain ⟨m2, rfl⟩ : ∃ q : Int, q = m2_0 := ⟨m2_0, rfl⟩
    obtain ⟨a, rfl⟩ : ∃ q : Ll, q = a_0 := ⟨a_0, rfl⟩
    obtain ⟨b, rfl⟩ : ∃ q : Ll, q = b_0 := ⟨b_0, rfl⟩
    obtain ⟨i_0, rfl⟩ : ∃ q : Int, q = i_0_0 := ⟨i_0_0, rfl⟩
    obtain ⟨T_, FN_, M_, snx_, wr_⟩ := s_
    have hN : (((((Nat.beq FN_ 32 && Nat.beq snx_ 2) && Nat.beq t3 0) && decide (k3 = [.int .i64, .int .i64])) && Nat.beq t4 0) && decide (k4 = [.int .i64, .int .i64])) = true := by
      cases hq : ((((((Nat.beq FN_ 32 && Nat.beq snx_ 2) && Nat.beq t3 0) && decide (k3 = [.int .i64, .int .i64])) && Nat.beq t4 0) && decide (k4 = [.int .i64, .int .i64])) : Bool) with
      | true => rfl
      | false => (rw [hq] at h_; exact h_.elim)
    rw [hN, cond_true] at h_
    simp only [Bool.and_eq_true, beq_iff, decide_eq_true_eq] at hN
    obtain ⟨⟨⟨⟨⟨rfl, rfl⟩, rfl⟩, rfl⟩, rfl⟩, rfl⟩ := hN
    obtain ⟨q0, h_⟩ := h_
    obtain rfl : m1 = (Ll.len a) := q0
    obtain ⟨q0, h_⟩ := h_
    obtain rfl : m2 = (Ll.len b) := q0
    obtain ⟨q1, h_⟩ := h_
    have q1 : i_0 = (0 : Int) := q1
    obtain ⟨q2, h_⟩ := h_
    have q2 : (Ll.len a) ≤ (1000000 : Int) := q2
    replace h_ : cond (decide (dfL a b < (min a.length b.length : Nat))) (K_ .ret (hdL (bodyAt Try.prog 17 [false, true, false, true]) T_ (kills [] M_) 32 2 [(0, .ls false 0 (Ll.len a)), (1, .ls false 1 (Ll.len b))] [(0, .list 0 [.int .i64, .int .i64] false a), (1, .list 0 [.int .i64, .int .i64] false b)] [(4, .b false)] [] [] [] (addW ([] ++ []) wr_))) (K_ (.exit 0) (hdL (bodyAt Try.prog 17 [false, true, false, true]) T_ (kills [] M_) 32 2 [(0, .ls false 0 (Ll.len a)), (1, .ls false 1 (Ll.len b))] [(0, .list 0 [.int .i64, .int .i64] false a), (1, .list 0 [.int .i64, .int .i64] false b)] [(5, .i .i64 (dfL a b))] [] [] [] (addW ([] ++ []) wr_))) := h_
    have hx1 : (decide (dfL a b < (min a.length b.length : Nat))) = true → K_ .ret (hdL (bodyAt Try.prog 17 [false, true, false, true]) T_ (kills [] M_) 32 2 [(0, .ls false 0 (Ll.len a)), (1, .ls false 1 (Ll.len b))] [(0, .list 0 [.int .i64, .int .i64] false a), (1, .list 0 [.int .i64, .int .i64] false b)] [(4, .b false)] [] [] [] (addW ([] ++ []) wr_)) := fun e1 => by
      have h2 := h_
      rw [e1] at h2; simp only [cond_true, cond_false] at h2; exact h2
    have hx2 : (decide (dfL a b < (min a.length b.length : Nat))) = false → K_ (.exit 0) (hdL (bodyAt Try.prog 17 [false, true, false, true]) T_ (kills [] M_) 32 2 [(0, .ls false 0 (Ll.len a)), (1, .ls false 1 (Ll.len b))] [(0, .list 0 [.int .i64, .int .i64] false a), (1, .list 0 [.int .i64, .int .i64] false b)] [(5, .i .i64 (dfL a b))] [] [] [] (addW ([] ++ []) wr_)) := fun e1 => by
      have h2 := h_
      rw [e1] at h2; simp only [cond_true, cond_false] at h2; exact h2
    refine loop_ruleL (fs := fspl) (ov := true) (s := ⟨T_, 32, M_, 2, wr_⟩) (X := Int) (B := []) (mv := []) (kt := [(0, .ls false 0 (Ll.len a)), (1, .ls false 1 (Ll.len b))]) (kr := [(0, .list 0 [.int .i64, .int .i64] false a), (1, .list 0 [.int .i64, .int .i64] false b)]) (ty := []) (x := (i_0))
      (Inv := (fun x_ : Int => match x_ with | (i) => 0 ≤ i ∧ i ≤ dfL a b)) (μ := (fun x_ : Int => match x_ with | (i) => (2000000 - i).toNat)) (ts := tsOf [5] [4]) (sl := (fun x_ : Int => match x_ with | (i) => [.i .i64 i])) (bl := (fun x_ : Int => match x_ with | (i) => [])) (ll := (fun x_ : Int => match x_ with | (i) => [])) (Q := fun e_ vs_ os_ hs_ => K_ e_ (hdL (bodyAt Try.prog 17 [false, true, false, true]) T_ (kills [] M_) 32 2 [(0, .ls false 0 (Ll.len a)), (1, .ls false 1 (Ll.len b))] [(0, .list 0 [.int .i64, .int .i64] false a), (1, .list 0 [.int .i64, .int .i64] false b)] (((tsOf [5] [4]) e_).zip vs_) ([].zip os_) [] hs_ (addW ([] ++ []) wr_)))
      (L := LL) (U := 30) (cs := sCall Try.prog 30 (spOf sp0) noLoop 20) (call := CN Try.prog AW m_) (lp := ⟨17, false, noLoop 17⟩) (root := c0_) (p := [false, true, false, true])
      (show CallSOK _ _ from by
        have := sCall_ok (P := Try.prog) (d := m_ - 20) (U := 30) (lp := noLoop) (sp0_ok (fs := fspl) (ov := true) (d := m_ - 20)) (sp0_aw (fs := fspl) (ov := true)) (noLoop_ok) (by decide) rfl 20
        rwa [show 20 + (m_ - 20) = m_ by omega] at this) (ctx_of (g := 17) (rg := false) (at_ := noLoop 17) (fun p rg f h => by cases h) hfn_ hb_ hro_) (by decide) hc_
      (fun x o ho => by cases ho)
      (fun x hx => by cases hx) (fun x hx => by cases hx) (fun x hx => by cases hx)
      (fun x hx => by
        simp only [List.mem_cons, List.not_mem_nil, or_false] at hx
        rcases hx with rfl | rfl
        · exact g0
        · exact g1) (fun x hx => by
        simp only [List.mem_cons, List.not_mem_nil, or_false] at hx
        rcases hx with rfl | rfl
        · exact ⟨g2, by simp⟩
        · exact ⟨g3, by simp⟩) ?_ (fun _ _ _ _ _ h => h) ?_ ?_ ?_ hs_
    · rintro i hI
      exact ss_go a b i i_0 q1 T_ (kills [] M_) _ q2 hI (fun i' ha hb => ⟨(i'), ha, hb, rfl, rfl, rfl⟩) (fun e1 => ⟨by simp [SO.mine], hx1 e1⟩) (fun e1 => ⟨by simp [SO.mine], hx2 e1⟩)
    · show 0 ≤ i_0 ∧ i_0 ≤ dfL a b
      exact ⟨by omega, by rw [q1]; exact (leastN_spec (fun j => !rowE2 a b j) (min a.length b.length) 0).1⟩
    · show (2000000 - i_0).toNat < LL
      exact Nat.lt_of_le_of_lt (show _ ≤ 2000000 by omega) (by decide)
    · exact ⟨⟨[.i .i64 i_0], [], [], [], by simp [gets, tsOf, g0, g1, g2, g3, g4], by simp [gets, g0, g1, g2, g3, g4], rfl, rfl, by simp [listsOf] <;> rfl⟩⟩
  · exact h_.elim
abbrev lpSs {A : Go.Rx.Alg} : Nat → Go.Rx.LoopS A := Go.Rx.lpOf [(17, [false, true, false, true], false, ssF)]
theorem lpSs_ok {d : Nat} (hd : 100 ≤ d) : LoopsAll (fs := fspl) (ov := true) Try.prog AW d lpSs := lpOf_ok fun x hx => by
  simp only [List.mem_cons, List.not_mem_nil, or_false] at hx
  rcases hx with rfl
  · exact ssF_ok (by omega)
theorem sslug_eq (a b : Ll) (KK : KS (stdA fspl true)) : sFunc Try.prog 30 (sCall Try.prog 30 (spOf sp0) lpSs 20) lpSs 17 [.ls false 0 (Ll.len a), .ls false 1 (Ll.len b)] (lsMem 0 [([.int .i64, .int .i64], a), ([.int .i64, .int .i64], b)]) 2 KK =
  ((Ll.len a) = (Ll.len a) ∧ ((Ll.len b) = (Ll.len b) ∧ ((0 : Int) = (0 : Int) ∧ ((Ll.len a) ≤ (1000000 : Int) ∧ (cond (decide (dfL a b < (min a.length b.length : Nat)))
 (KK (.b false) (lsMem 0 [([.int .i64, .int .i64], a), ([.int .i64, .int .i64], b)]) 2 [])
 (KK (.b (decide ((Ll.len a) = (Ll.len b)))) (lsMem 0 [([.int .i64, .int .i64], a), ([.int .i64, .int .i64], b)]) 2 [])))))) := by kernel_rfl
theorem sslug_pure {m : Nat} (hm : 200 ≤ m) {H : Hp} {nx : Nat} {v_a : LV} {a : Ll} (hl_a : IsL H nx [.int .i64, .int .i64] a v_a) {v_b : LV} {b : Ll} (hl_b : IsL H nx [.int .i64, .int .i64] b v_b) (p1 : (Ll.len a) ≤ (1000000 : Int)) : Pure Try.prog AW m 17 [v_a, v_b] H nx (.b (sameL2 a b)) := by
  obtain ⟨ν, n1, n2, n3, n4⟩ := ls_in (fs := fspl) (ov := true) (l := [([.int .i64, .int .i64], a), ([.int .i64, .int .i64], b)]) (lvs := [v_a, v_b]) 0 (fun i x lv e1 e2 => by
    cases i with
    | zero => simp at e1 e2; subst e1 e2; exact hl_a
    | succ i =>
      cases i with
      | zero => simp at e1 e2; subst e1 e2; exact hl_b
      | succ i =>
        simp at e1) rfl
  refine pure_of (n := 20) (d := m - 21) (U := 30) (fs := fspl) (ov := true) sp0_ok sp0_aw (lpSs_ok (by omega)) (by decide) (by decide) (by omega) (args := [.ls false 0 (Ll.len a), .ls false 1 (Ll.len b)]) (M := lsMem 0 [([.int .i64, .int .i64], a), ([.int .i64, .int .i64], b)]) (snx := 2) ?_ (VSL.cons (n4 0 _ _ rfl rfl) (VSL.cons (n4 1 _ _ rfl rfl) rfl)) (hs_in n2 n3)
  rw [sslug_eq]
  have hl : Ll.len a = (a.length : Int) := rfl
  have hl2 : Ll.len b = (b.length : Int) := rfl
  have c0 : sameL2 a b = decide (a.length = b.length ∧ ¬ dfL a b < (min a.length b.length : Nat)) := rfl
  by_cases h : dfL a b < (min a.length b.length : Nat)
  · rw [decide_eq_true h]
    repeat' (first | exact end_b (by rw [c0]; exact (decide_eq_false fun hc => hc.2 h).symm) | apply And.intro)
    all_goals first | trivial | omega
  · rw [decide_eq_false h]
    have e : decide (Ll.len a = Ll.len b) = sameL2 a b := by
      rw [c0]
      by_cases h2 : a.length = b.length
      · rw [decide_eq_true (show Ll.len a = Ll.len b by omega), decide_eq_true ⟨h2, h⟩]
      · rw [decide_eq_false (show ¬ Ll.len a = Ll.len b by omega), decide_eq_false (fun hc => h2 hc.1)]
    repeat' (first | exact end_b e | apply And.intro)
    all_goals first | trivial | omega
abbrev sslugS {A : Go.Rx.Alg} : List (Go.Rx.SV A) → Go.Rx.SH A → Nat → Go.Rx.KS A → A.R := fun args_ M_ snx_ K_ => match args_ with
  | [x_a, x_b] => (match Go.Rx.lsArg M_ [.int .i64, .int .i64] x_a with | some (a, n_a) => (A.need .eql n_a (A.len a) (match Go.Rx.lsArg M_ [.int .i64, .int .i64] x_b with | some (b, n_b) => (A.need .eql n_b (A.len b) (A.need .leq (A.len a) (A.lit 1000000) (K_ (.b (A.appB 30 [a, b] [])) M_ snx_ []))) | none => A.fail "sslug")) | none => A.fail "sslug")
  | _ => A.fail "sslug"
theorem sslugS_ok {ov : Bool} {d : Nat} (hd : 200 ≤ d) : SpecOK (fs := fspl) (ov := ov) Try.prog AW d 17 sslugS := by
  intro m_ hm_ args_ M_ snx_ K_ h_ ν_ largs_ H_ nx_ ha_ hM_
  unfold sslugS at h_
  split at h_
  · rename_i x_a x_b
    obtain ⟨v_a, r1, rfl, hx_a, ⟨v_b, r2, rfl, hx_b, rfl⟩⟩ := ha_
    split at h_
    · rename_i a n_a q_a
      obtain ⟨e_a, h_⟩ := h_
      split at h_
      · rename_i b n_b q_b
        obtain ⟨e_b, h_⟩ := h_
        obtain ⟨p1, h_⟩ := h_
        exact pure_got (sslug_pure (by omega) (lsArg_ok hM_ hx_a q_a e_a) (lsArg_ok hM_ hx_b q_b e_b) p1) hM_ (v := .b _) rfl h_
      · exact h_.elim
    · exact h_.elim
  · exact h_.elim
theorem pum_eq (w v i k : Int) (h c g o : Ll) (T : Al (SV (stdA fspl true))) (M : Al (SO (stdA fspl true))) (KK : Ex → List (SV (stdA fspl true)) → List (SO (stdA fspl true)) → List Ll → Prop) : sCode Try.prog (sCall Try.prog 30 (spOf sp0) noLoop 20) ⟨15, false, noLoop 15⟩ 30 (false :: [false, true, false, true, true, true, true, true, true]) (bodyAt Try.prog 15 [false, true, false, true, true, true, true, true, true]) (hdL (bodyAt Try.prog 15 [false, true, false, true, true, true, true, true, true]) T M 82 6 [(11, .fn 35 [] [.p 4 0]), (45, .ls false 1 (Ll.len c)), (46, .i .i64 (Ll.len c))] [(0, .list 0 [.int .i64, .int .i64, .int .i64, .int .i64] false h), (1, .list 0 [.int .i64, .int .i64] false c)] [(47, .i .i64 i), (6, .ls true 6 (Ll.len g)), (7, .ls true 7 (Ll.len o))] [(4, .row 2 [.i .i64 k])] [(32, [.int .i64, .int .i64]), (32, [.int .i64, .int .i64])] [g, o] []) (outL 6 (tsOf [47, 6, 7] []) [4] [5] [(32, [.int .i64, .int .i64]), (32, [.int .i64, .int .i64])] KK) =
  (cond (decide (i < (Ll.len c)))
 ((0 : Int) ≤ i ∧ (i < (Ll.len c) ∧ (i < (Ll.len c) ∧ (InK .i64 (k - (minL (Ll.get c i 1) k)) ∧ ((Ll.len g) = (Ll.len g) ∧ ((Ll.len (g ++ [[(Ll.get c i 0), (minL (Ll.get c i 1) k)]])) ≤ (1000000 : Int) ∧ (InK .i64 ((Ll.get c i 1) - (minL (Ll.get c i 1) k)) ∧ ((Ll.len o) = (Ll.len o) ∧ ((Ll.len (o ++ [[(Ll.get c i 0), ((Ll.get c i 1) - (minL (Ll.get c i 1) k))]])) ≤ (1000000 : Int) ∧ (InK .i64 (i + (1 : Int)) ∧ (KK .normal [(.i .i64 (i + (1 : Int))), (.ls true 6 (Ll.len (g ++ [[(Ll.get c i 0), (minL (Ll.get c i 1) k)]]))), (.ls true 7 (Ll.len (o ++ [[(Ll.get c i 0), ((Ll.get c i 1) - (minL (Ll.get c i 1) k))]])))] [(.row 2 [(.i .i64 (k - (minL (Ll.get c i 1) k)))])] [(g ++ [[(Ll.get c i 0), (minL (Ll.get c i 1) k)]]), (o ++ [[(Ll.get c i 0), ((Ll.get c i 1) - (minL (Ll.get c i 1) k))]])])))))))))))
 (KK (.exit 0) [(.i .i64 i), (.ls true 6 (Ll.len g)), (.ls true 7 (Ll.len o))] [(.row 2 [(.i .i64 k)])] [g, o])) := by kernel_rfl
theorem pum_go (w : Int) (v : Int) (h : Ll) (c : Ll) (i : Int) (k : Int) (g : Ll) (o : Ll) (i_0 : Int) (k_0 : Int) (r1 : i_0 = (0 : Int)) (r2 : (0 : Int) ≤ k_0) (r3 : k_0 ≤ (5242880000 : Int)) (T : Al (SV (stdA fspl true))) (M : Al (SO (stdA fspl true))) (KK : Ex → List (SV (stdA fspl true)) → List (SO (stdA fspl true)) → List Ll → Prop) (p1 : (colE h c) = (0 : Int)) (hI : 0 ≤ i ∧ i ≤ c.length ∧ k = pmN c k_0 i.toNat ∧ g = nowP c w v k_0 i.toNat ∧ o = outP c k_0 i.toNat) (hn : ∀ (i' : Int) (k' : Int) (g' : Ll) (o' : Ll), 0 ≤ i' ∧ i' ≤ c.length ∧ k' = pmN c k_0 i'.toNat ∧ g' = nowP c w v k_0 i'.toNat ∧ o' = outP c k_0 i'.toNat → (40 - i').toNat < (40 - i).toNat → KK .normal [.i .i64 i', .ls true 6 (Ll.len g'), .ls true 7 (Ll.len o')] [.row 2 [.i .i64 k']] [g', o']) (hx1 : KK (.exit 0) [.i .i64 (Ll.len c), .ls true 6 (Ll.len (nowP c w v k_0 c.length)), .ls true 7 (Ll.len (outP c k_0 c.length))] [.row 2 [.i .i64 (pmN c k_0 c.length)]] [(nowP c w v k_0 c.length), (outP c k_0 c.length)]) :
    sCode Try.prog (sCall Try.prog 30 (spOf sp0) noLoop 20) ⟨15, false, noLoop 15⟩ 30 (false :: [false, true, false, true, true, true, true, true, true]) (bodyAt Try.prog 15 [false, true, false, true, true, true, true, true, true]) (hdL (bodyAt Try.prog 15 [false, true, false, true, true, true, true, true, true]) T M 82 6 [(11, .fn 35 [] [.p 4 0]), (45, .ls false 1 (Ll.len c)), (46, .i .i64 (Ll.len c))] [(0, .list 0 [.int .i64, .int .i64, .int .i64, .int .i64] false h), (1, .list 0 [.int .i64, .int .i64] false c)] [(47, .i .i64 i), (6, .ls true 6 (Ll.len g)), (7, .ls true 7 (Ll.len o))] [(4, .row 2 [.i .i64 k])] [(32, [.int .i64, .int .i64]), (32, [.int .i64, .int .i64])] [g, o] []) (outL 6 (tsOf [47, 6, 7] []) [4] [5] [(32, [.int .i64, .int .i64]), (32, [.int .i64, .int .i64])] KK) := by
  refine Eq.mpr (pum_eq w v i k h c g o T M KK) ?_
  simp only [cond_iff, InK64]
  obtain ⟨i0, i1, rfl, rfl, rfl⟩ := hI
  have hl : Ll.len c = (c.length : Int) := rfl
  have e := col_of p1
  have hlen := e.len
  have pb := pm_b e r2 i.toNat (by omega)
  by_cases h : i < Ll.len c
  · have e1 : (i + 1).toNat = i.toNat + 1 := by omega
    have hN := hn (i + 1) _ _ _ ⟨by omega, by omega, rfl, rfl, rfl⟩ (by omega)
    rw [e1, pmN_succ i0, nowP_succ i0, outP_succ i0] at hN
    have ha := e.at i0 (by omega)
    have hv := e.vol i0 (by omega)
    have eL : ∀ r : List Int, Ll.len (nowP c w v k_0 i.toNat ++ [r]) ≤ 1000000 := fun r => by
      show ((List.length _ : Nat) : Int) ≤ 1000000
      rw [List.length_append, nowP_len, List.length_cons, List.length_nil]; omega
    have eO : ∀ r : List Int, Ll.len (outP c k_0 i.toNat ++ [r]) ≤ 1000000 := fun r => by
      show ((List.length _ : Nat) : Int) ≤ 1000000
      rw [List.length_append, outP_len, List.length_cons, List.length_nil]; omega
    have hmn : minL (Ll.get c i 1) (pmN c k_0 i.toNat) ≤ Ll.get c i 1 ∧ minL (Ll.get c i 1) (pmN c k_0 i.toNat) ≤ pmN c k_0 i.toNat ∧ 0 ≤ minL (Ll.get c i 1) (pmN c k_0 i.toNat) := by
      rw [minL_eq]; split <;> omega
    clear hn hx1
    generalize minL (Ll.get c i 1) (pmN c k_0 i.toNat) = m at *
    repeat' (first | exact hN | exact eL _ | exact eO _ | apply And.intro | intro _)
    all_goals first | omega | exact True.intro
  · obtain rfl : i = c.length := by omega
    rw [Int.toNat_natCast]
    repeat' (first | exact hx1 | apply And.intro | intro _)
    all_goals first | omega | exact True.intro
theorem pum0_eq (w v i k : Int) (h c : Ll) (T : Al (SV (stdA fspl true))) (M : Al (SO (stdA fspl true))) (KK : Ex → List (SV (stdA fspl true)) → List (SO (stdA fspl true)) → List Ll → Prop) : sCode Try.prog (sCall Try.prog 30 (spOf sp0) noLoop 20) ⟨15, false, noLoop 15⟩ 30 (false :: [false, true, false, true, true, true, true, true, true]) (bodyAt Try.prog 15 [false, true, false, true, true, true, true, true, true]) ⟨push [(11, .fn 35 [] [.p 4 0]), (45, .ls false 1 (Ll.len c)), (46, .i .i64 (Ll.len c)), (47, .i .i64 i), (6, .sl 5 0 1 1), (7, .nils)] T, 82, push [(0, .list 0 [.int .i64, .int .i64, .int .i64, .int .i64] false h), (1, .list 0 [.int .i64, .int .i64] false c), (4, .row 2 [.i .i64 k]), (5, .row 32 [.i .i64 w, .i .i64 v])] M, 6, []⟩ (outL 6 (tsOf [47, 6, 7] []) [4] [5] [(32, [.int .i64, .int .i64]), (32, [.int .i64, .int .i64])] KK) =
  (cond (decide (i < (Ll.len c)))
 ((0 : Int) ≤ i ∧ (i < (Ll.len c) ∧ (i < (Ll.len c) ∧ (InK .i64 (k - (minL (Ll.get c i 1) k)) ∧ ((Ll.len ([[w, v]] ++ [[(Ll.get c i 0), (minL (Ll.get c i 1) k)]])) ≤ (1000000 : Int) ∧ (InK .i64 ((Ll.get c i 1) - (minL (Ll.get c i 1) k)) ∧ ((Ll.len [[(Ll.get c i 0), ((Ll.get c i 1) - (minL (Ll.get c i 1) k))]]) ≤ (1000000 : Int) ∧ (InK .i64 (i + (1 : Int)) ∧ (KK .normal [(.i .i64 (i + (1 : Int))), (.ls true 6 (Ll.len ([[w, v]] ++ [[(Ll.get c i 0), (minL (Ll.get c i 1) k)]]))), (.ls true 7 (Ll.len [[(Ll.get c i 0), ((Ll.get c i 1) - (minL (Ll.get c i 1) k))]]))] [(.row 2 [(.i .i64 (k - (minL (Ll.get c i 1) k)))])] [([[w, v]] ++ [[(Ll.get c i 0), (minL (Ll.get c i 1) k)]]), [[(Ll.get c i 0), ((Ll.get c i 1) - (minL (Ll.get c i 1) k))]]])))))))))
 False) := by kernel_rfl
theorem pum_go0 (w : Int) (v : Int) (h : Ll) (c : Ll) (i_0 : Int) (k_0 : Int) (T : Al (SV (stdA fspl true))) (M : Al (SO (stdA fspl true))) (KK : Ex → List (SV (stdA fspl true)) → List (SO (stdA fspl true)) → List Ll → Prop) (p1 : (colE h c) = (0 : Int)) (p2 : i_0 = (0 : Int)) (p3 : (0 : Int) ≤ k_0) (p4 : k_0 ≤ (5242880000 : Int)) (hn : ∀ (i' : Int) (k' : Int) (g' : Ll) (o' : Ll), 0 ≤ i' ∧ i' ≤ c.length ∧ k' = pmN c k_0 i'.toNat ∧ g' = nowP c w v k_0 i'.toNat ∧ o' = outP c k_0 i'.toNat → (40 - i').toNat < 5000 → KK .normal [.i .i64 i', .ls true 6 (Ll.len g'), .ls true 7 (Ll.len o')] [.row 2 [.i .i64 k']] [g', o']) (hx1 : KK (.exit 0) [.i .i64 (Ll.len c), .ls true 6 (Ll.len (nowP c w v k_0 c.length)), .ls true 7 (Ll.len (outP c k_0 c.length))] [.row 2 [.i .i64 (pmN c k_0 c.length)]] [(nowP c w v k_0 c.length), (outP c k_0 c.length)]) :
    sCode Try.prog (sCall Try.prog 30 (spOf sp0) noLoop 20) ⟨15, false, noLoop 15⟩ 30 (false :: [false, true, false, true, true, true, true, true, true]) (bodyAt Try.prog 15 [false, true, false, true, true, true, true, true, true]) ⟨push [(11, .fn 35 [] [.p 4 0]), (45, .ls false 1 (Ll.len c)), (46, .i .i64 (Ll.len c)), (47, .i .i64 i_0), (6, .sl 5 0 1 1), (7, .nils)] T, 82, push [(0, .list 0 [.int .i64, .int .i64, .int .i64, .int .i64] false h), (1, .list 0 [.int .i64, .int .i64] false c), (4, .row 2 [.i .i64 k_0]), (5, .row 32 [.i .i64 w, .i .i64 v])] M, 6, []⟩ (outL 6 (tsOf [47, 6, 7] []) [4] [5] [(32, [.int .i64, .int .i64]), (32, [.int .i64, .int .i64])] KK) := by
  refine Eq.mpr (pum0_eq w v i_0 k_0 h c T M KK) ?_
  simp only [cond_iff, InK64]
  obtain rfl := p2
  have hl : Ll.len c = (c.length : Int) := rfl
  have e := col_of p1
  have hlen := e.len
  have hN := hn 1 _ _ _ ⟨by omega, by omega, rfl, rfl, rfl⟩ (by decide)
  have e1 : (1 : Int).toNat = (0 : Int).toNat + 1 := rfl
  have i0 : (0 : Int) ≤ 0 := Int.le_refl _
  rw [e1, pmN_succ i0, nowP_succ i0, outP_succ i0] at hN
  have z1 : pmN c k_0 (0 : Int).toNat = k_0 := rfl
  have z2 : nowP c w v k_0 (0 : Int).toNat = [[w, v]] := rfl
  have z3 : outP c k_0 (0 : Int).toNat = [] := rfl
  rw [z1, z2, z3, List.nil_append] at hN
  have ha := e.at i0 (by omega)
  have hv := e.vol i0 (by omega)
  have hmn : minL (Ll.get c 0 1) k_0 ≤ Ll.get c 0 1 ∧ minL (Ll.get c 0 1) k_0 ≤ k_0 ∧ 0 ≤ minL (Ll.get c 0 1) k_0 := by
    rw [minL_eq]; split <;> omega
  clear hn hx1
  simp only [Int.zero_add]
  generalize minL (Ll.get c 0 1) k_0 = m at *
  repeat' (first | exact hN | apply And.intro | intro _)
  all_goals first | omega | exact True.intro | (show ((2 : Nat) : Int) ≤ 1000000; omega) | (show ((1 : Nat) : Int) ≤ 1000000; omega)
abbrev pumF {A : Go.Rx.Alg} : Code → Go.Rx.SS A → (Go.Rx.Ex → Go.Rx.SS A → A.R) → A.R := fun c_ s_ K_ => match s_.T.get 11, s_.T.get 45, s_.T.get 46, s_.H.get 0, s_.H.get 1, s_.T.get 47, s_.T.get 6, s_.T.get 7, s_.H.get 4, s_.H.get 5 with
  | some (.fn f1 [] [.p 4 0]), some (.ls false 1 m2), some (.i .i64 m3), some (.list t4 k4 false h), some (.list t5 k5 false c), some (.i .i64 i), some (.sl 5 0 1 1), some (.nils), some (.row t6 [.i .i64 k]), some (.row t7 [.i .i64 w, .i .i64 v]) => bif ((((((((Nat.beq s_.N 82 && Nat.beq s_.nx 6) && Nat.beq f1 35) && Nat.beq t4 0) && decide (k4 = [.int .i64, .int .i64, .int .i64, .int .i64])) && Nat.beq t5 0) && decide (k5 = [.int .i64, .int .i64])) && Nat.beq t6 2) && Nat.beq t7 32) then (A.need .eql m2 (A.len c) (A.need .eql m3 (A.len c) (A.need .eql (A.app 3 [h, c] []) (A.lit 0) (A.need .eql i (A.lit 0) (A.need .leq (A.lit 0) k (A.need .leq k (A.lit 5242880000) (K_ (.exit 0) (Go.Rx.hdL c_ s_.T (Go.Rx.kills [5] s_.H) 82 6 [(11, .fn 35 [] [.p 4 0]), (45, .ls false 1 (A.len c)), (46, .i .i64 (A.len c))] [(0, .list 0 [.int .i64, .int .i64, .int .i64, .int .i64] false h), (1, .list 0 [.int .i64, .int .i64] false c)] [(47, .i .i64 (A.len c)), (6, .ls true 6 (A.len (A.appL 51 [c] [w, v, k]))), (7, .ls true 7 (A.len (A.appL 52 [c] [k])))] [(4, .row 2 [.i .i64 (A.app 5 [c] [k])])] [(32, [.int .i64, .int .i64]), (32, [.int .i64, .int .i64])] [(A.appL 51 [c] [w, v, k]), (A.appL 52 [c] [k])] (Go.Rx.addW ([5] ++ [4]) s_.wr))))))))) else A.fail "frame of pum"
  | _, _, _, _, _, _, _, _, _, _ => A.fail "pum"
theorem pumF_ok {d : Nat} (hd : 100 ≤ d) : LoopOK (fs := fspl) (ov := true) Try.prog AW d 15 [false, true, false, true, true, true, true, true, true] false pumF := by
  intro m_ hm_ fn_ c0_ hfn_ hb_ c_ ro_ hro_ hc_ s_ K_ W_ ν_ S_ h_ hs_
  obtain rfl := body_of hfn_ hb_ hc_
  unfold pumF at h_
  split at h_
  · rename_i f1 m2_0 m3_0 t4 k4 h_0 t5 k5 c_0 i_0_0 t6 k_0_0 t7 w_0 v_0 g0 g1 g2 g3 g4 g5 g6 g7 g8 g9
    obtain ⟨m2, rfl⟩ : ∃ q : Int, q = m2_0 := ⟨m2_0, rfl⟩
    obtain ⟨m3, rfl⟩ : ∃ q : Int, q = m3_0 := ⟨m3_0, rfl⟩
    obtain ⟨h, rfl⟩ : ∃ q : Ll, q = h_0 := ⟨h_0, rfl⟩
    obtain ⟨c, rfl⟩ : ∃ q : Ll, q = c_0 := ⟨c_0, rfl⟩
    obtain ⟨i_0, rfl⟩ : ∃ q : Int, q = i_0_0 := ⟨i_0_0, rfl⟩
    obtain ⟨k_0, rfl⟩ : ∃ q : Int, q = k_0_0 := ⟨k_0_0, rfl⟩
    obtain ⟨w, rfl⟩ : ∃ q : Int, q = w_0 := ⟨w_0, rfl⟩
    obtain ⟨v, rfl⟩ : ∃ q : Int, q = v_0 := ⟨v_0, rfl⟩
    obtain ⟨T_, FN_, M_, snx_, wr_⟩ := s_
    have hN : ((((((((Nat.beq FN_ 82 && Nat.beq snx_ 6) && Nat.beq f1 35) && Nat.beq t4 0) && decide (k4 = [.int .i64, .int .i64, .int .i64, .int .i64])) && Nat.beq t5 0) && decide (k5 = [.int .i64, .int .i64])) && Nat.beq t6 2) && Nat.beq t7 32) = true := by
      cases hq : (((((((((Nat.beq FN_ 82 && Nat.beq snx_ 6) && Nat.beq f1 35) && Nat.beq t4 0) && decide (k4 = [.int .i64, .int .i64, .int .i64, .int .i64])) && Nat.beq t5 0) && decide (k5 = [.int .i64, .int .i64])) && Nat.beq t6 2) && Nat.beq t7 32) : Bool) with
      | true => rfl
      | false => (rw [hq] at h_; exact h_.elim)
    rw [hN, cond_true] at h_
    simp only [Bool.and_eq_true, beq_iff, decide_eq_true_eq] at hN
    obtain ⟨⟨⟨⟨⟨⟨⟨⟨rfl, rfl⟩, rfl⟩, rfl⟩, rfl⟩, rfl⟩, rfl⟩, rfl⟩, rfl⟩ := hN
    obtain ⟨q0, h_⟩ := h_
    obtain rfl : m2 = (Ll.len c) := q0
    obtain ⟨q0, h_⟩ := h_
    obtain rfl : m3 = (Ll.len c) := q0
    obtain ⟨q1, h_⟩ := h_
    have q1 : (colE h c) = (0 : Int) := q1
    obtain ⟨q2, h_⟩ := h_
    have q2 : i_0 = (0 : Int) := q2
    obtain ⟨q3, h_⟩ := h_
    have q3 : (0 : Int) ≤ k_0 := q3
    obtain ⟨q4, h_⟩ := h_
    have q4 : k_0 ≤ (5242880000 : Int) := q4
    replace h_ : K_ (.exit 0) (hdL (bodyAt Try.prog 15 [false, true, false, true, true, true, true, true, true]) T_ (kills [5] M_) 82 6 [(11, .fn 35 [] [.p 4 0]), (45, .ls false 1 (Ll.len c)), (46, .i .i64 (Ll.len c))] [(0, .list 0 [.int .i64, .int .i64, .int .i64, .int .i64] false h), (1, .list 0 [.int .i64, .int .i64] false c)] [(47, .i .i64 (Ll.len c)), (6, .ls true 6 (Ll.len (nowP c w v k_0 c.length))), (7, .ls true 7 (Ll.len (outP c k_0 c.length)))] [(4, .row 2 [.i .i64 (pmN c k_0 c.length)])] [(32, [.int .i64, .int .i64]), (32, [.int .i64, .int .i64])] [(nowP c w v k_0 c.length), (outP c k_0 c.length)] (addW ([5] ++ [4]) wr_)) := h_
    have hx1 : K_ (.exit 0) (hdL (bodyAt Try.prog 15 [false, true, false, true, true, true, true, true, true]) T_ (kills [5] M_) 82 6 [(11, .fn 35 [] [.p 4 0]), (45, .ls false 1 (Ll.len c)), (46, .i .i64 (Ll.len c))] [(0, .list 0 [.int .i64, .int .i64, .int .i64, .int .i64] false h), (1, .list 0 [.int .i64, .int .i64] false c)] [(47, .i .i64 (Ll.len c)), (6, .ls true 6 (Ll.len (nowP c w v k_0 c.length))), (7, .ls true 7 (Ll.len (outP c k_0 c.length)))] [(4, .row 2 [.i .i64 (pmN c k_0 c.length)])] [(32, [.int .i64, .int .i64]), (32, [.int .i64, .int .i64])] [(nowP c w v k_0 c.length), (outP c k_0 c.length)] (addW ([5] ++ [4]) wr_)) := by
      have h2 := h_
      exact h2
    refine loop_ruleF (fs := fspl) (ov := true) (s := ⟨T_, 82, M_, 6, wr_⟩) (X := Int × Int × Ll × Ll) (B := [4]) (mv := [5]) (kt := [(11, .fn 35 [] [.p 4 0]), (45, .ls false 1 (Ll.len c)), (46, .i .i64 (Ll.len c))]) (kr := [(0, .list 0 [.int .i64, .int .i64, .int .i64, .int .i64] false h), (1, .list 0 [.int .i64, .int .i64] false c)]) (kt0 := [(11, .fn 35 [] [.p 4 0]), (45, .ls false 1 (Ll.len c)), (46, .i .i64 (Ll.len c)), (47, .i .i64 i_0), (6, .sl 5 0 1 1), (7, .nils)]) (kr0 := [(0, .list 0 [.int .i64, .int .i64, .int .i64, .int .i64] false h), (1, .list 0 [.int .i64, .int .i64] false c), (4, .row 2 [.i .i64 k_0]), (5, .row 32 [.i .i64 w, .i .i64 v])]) (ty := [(32, [.int .i64, .int .i64]), (32, [.int .i64, .int .i64])]) (m := 5000)
      (Inv := (fun x_ : Int × Int × Ll × Ll => match x_ with | (i, k, g, o) => 0 ≤ i ∧ i ≤ c.length ∧ k = pmN c k_0 i.toNat ∧ g = nowP c w v k_0 i.toNat ∧ o = outP c k_0 i.toNat)) (μ := (fun x_ : Int × Int × Ll × Ll => match x_ with | (i, k, g, o) => (40 - i).toNat)) (ts := tsOf [47, 6, 7] []) (sl := (fun x_ : Int × Int × Ll × Ll => match x_ with | (i, k, g, o) => [.i .i64 i, .ls true 6 (Ll.len g), .ls true 7 (Ll.len o)])) (bl := (fun x_ : Int × Int × Ll × Ll => match x_ with | (i, k, g, o) => [.row 2 [.i .i64 k]])) (ll := (fun x_ : Int × Int × Ll × Ll => match x_ with | (i, k, g, o) => [g, o])) (Q := fun e_ vs_ os_ hs_ => K_ e_ (hdL (bodyAt Try.prog 15 [false, true, false, true, true, true, true, true, true]) T_ (kills [5] M_) 82 6 [(11, .fn 35 [] [.p 4 0]), (45, .ls false 1 (Ll.len c)), (46, .i .i64 (Ll.len c))] [(0, .list 0 [.int .i64, .int .i64, .int .i64, .int .i64] false h), (1, .list 0 [.int .i64, .int .i64] false c)] (((tsOf [47, 6, 7] []) e_).zip vs_) ([4].zip os_) [(32, [.int .i64, .int .i64]), (32, [.int .i64, .int .i64])] hs_ (addW ([5] ++ [4]) wr_)))
      (L := LL) (U := 30) (cs := sCall Try.prog 30 (spOf sp0) noLoop 20) (call := CN Try.prog AW m_) (lp := ⟨15, false, noLoop 15⟩) (root := c0_) (p := [false, true, false, true, true, true, true, true, true])
      (show CallSOK _ _ from by
        have := sCall_ok (P := Try.prog) (d := m_ - 20) (U := 30) (lp := noLoop) (sp0_ok (fs := fspl) (ov := true) (d := m_ - 20)) (sp0_aw (fs := fspl) (ov := true)) (noLoop_ok) (by decide) rfl 20
        rwa [show 20 + (m_ - 20) = m_ by omega] at this) (ctx_of (g := 15) (rg := false) (at_ := noLoop 15) (fun p rg f h => by cases h) hfn_ hb_ hro_) (by decide) hc_
      (by
        rintro ⟨i, k, g, o⟩ o ho
        simp only [List.mem_cons, List.not_mem_nil, or_false] at ho
        rcases ho with rfl
        · rfl)
      (fun x hx => by
        simp only [List.mem_cons, List.not_mem_nil, or_false] at hx
        rcases hx with rfl
        · exact ⟨_, g8, rfl⟩) (fun x hx => by
        simp only [List.mem_cons, List.not_mem_nil, or_false] at hx
        rcases hx with rfl
        · exact ⟨_, g9, rfl⟩) (fun x hx => by
        simp only [List.mem_cons, List.not_mem_nil, or_false] at hx
        rcases hx with rfl
        · simp)
      (fun x hx => by
        simp only [List.mem_cons, List.not_mem_nil, or_false] at hx
        rcases hx with rfl | rfl | rfl
        · exact g0
        · exact g1
        · exact g2) (fun x hx => by
        simp only [List.mem_cons, List.not_mem_nil, or_false] at hx
        rcases hx with rfl | rfl
        · exact ⟨g3, by simp⟩
        · exact ⟨g4, by simp⟩) ?_ (fun _ _ _ _ _ h => h) (by decide) (fun x hx => by
        simp only [List.mem_cons, List.not_mem_nil, or_false] at hx
        rcases hx with rfl | rfl | rfl | rfl | rfl | rfl
        · exact g0
        · exact g1
        · exact g2
        · exact g5
        · exact g6
        · exact g7) (fun x hx => by
        simp only [List.mem_cons, List.not_mem_nil, or_false] at hx
        rcases hx with rfl | rfl | rfl | rfl
        · exact g3
        · exact g4
        · exact g8
        · exact g9) ?_ hs_
    · rintro ⟨i, k, g, o⟩ hI
      exact pum_go w v h c i k g o i_0 k_0 q2 q3 q4 T_ (kills [5] M_) _ q1 hI (fun i' k' g' o' ha hb => ⟨(i', k', g', o'), ha, hb, rfl, rfl, rfl⟩) (⟨by simp [SO.mine], hx1⟩)
    · exact pum_go0 w v h c i_0 k_0 T_ M_ _ q1 q2 q3 q4 (fun i' k' g' o' ha hb => ⟨(i', k', g', o'), ha, hb, rfl, rfl, rfl⟩) (⟨by simp [SO.mine], hx1⟩)
  · exact h_.elim
theorem rpum_eq (w v i k : Int) (h c g o : Ll) (T : Al (SV (stdA fspl true))) (M : Al (SO (stdA fspl true))) (KK : Ex → List (SV (stdA fspl true)) → List (SO (stdA fspl true)) → List Ll → Prop) : sCode Try.prog (sCall Try.prog 30 (spOf sp0) noLoop 20) ⟨16, false, noLoop 16⟩ 30 (false :: [false, true, false, true, true, true, true, true, true]) (bodyAt Try.prog 16 [false, true, false, true, true, true, true, true, true]) (hdL (bodyAt Try.prog 16 [false, true, false, true, true, true, true, true, true]) T M 100 6 [(1, .ls false 1 (Ll.len c))] [(0, .list 0 [.int .i64, .int .i64, .int .i64, .int .i64] false h), (1, .list 0 [.int .i64, .int .i64] false c)] [(13, .i .i64 i), (12, .i .i64 k), (10, .ls true 6 (Ll.len g)), (11, .ls true 7 (Ll.len o))] [] [(32, [.int .i64, .int .i64]), (32, [.int .i64, .int .i64])] [g, o] []) (outL 6 (tsOf [13, 12, 10, 11] []) [] [4, 5] [(32, [.int .i64, .int .i64]), (32, [.int .i64, .int .i64])] KK) =
  (cond (decide (i < (Ll.len c)))
 ((0 : Int) ≤ i ∧ (i < (Ll.len c) ∧ (i < (Ll.len c) ∧ (InK .i64 (k - (minL k (Ll.get c i 1))) ∧ ((0 : Int) ≤ i ∧ (i < (Ll.len c) ∧ (i < (Ll.len c) ∧ ((Ll.len g) = (Ll.len g) ∧ ((Ll.len (g ++ [[(Ll.get c i 0), (minL k (Ll.get c i 1))]])) ≤ (1000000 : Int) ∧ ((0 : Int) ≤ i ∧ (i < (Ll.len c) ∧ (i < (Ll.len c) ∧ ((0 : Int) ≤ i ∧ (i < (Ll.len c) ∧ (i < (Ll.len c) ∧ (InK .i64 ((Ll.get c i 1) - (minL k (Ll.get c i 1))) ∧ ((Ll.len o) = (Ll.len o) ∧ ((Ll.len (o ++ [[(Ll.get c i 0), ((Ll.get c i 1) - (minL k (Ll.get c i 1)))]])) ≤ (1000000 : Int) ∧ (InK .i64 (i + (1 : Int)) ∧ (KK .normal [(.i .i64 (i + (1 : Int))), (.i .i64 (k - (minL k (Ll.get c i 1)))), (.ls true 6 (Ll.len (g ++ [[(Ll.get c i 0), (minL k (Ll.get c i 1))]]))), (.ls true 7 (Ll.len (o ++ [[(Ll.get c i 0), ((Ll.get c i 1) - (minL k (Ll.get c i 1)))]])))] [] [(g ++ [[(Ll.get c i 0), (minL k (Ll.get c i 1))]]), (o ++ [[(Ll.get c i 0), ((Ll.get c i 1) - (minL k (Ll.get c i 1)))]])]))))))))))))))))))))
 (KK (.exit 0) [(.i .i64 i), (.i .i64 k), (.ls true 6 (Ll.len g)), (.ls true 7 (Ll.len o))] [] [g, o])) := by kernel_rfl
theorem rpum_go (w : Int) (v : Int) (h : Ll) (c : Ll) (i : Int) (k : Int) (g : Ll) (o : Ll) (i_0 : Int) (k_0 : Int) (r1 : i_0 = (0 : Int)) (r2 : (0 : Int) ≤ k_0) (r3 : k_0 ≤ (5242880000 : Int)) (T : Al (SV (stdA fspl true))) (M : Al (SO (stdA fspl true))) (KK : Ex → List (SV (stdA fspl true)) → List (SO (stdA fspl true)) → List Ll → Prop) (p1 : (colE h c) = (0 : Int)) (hI : 0 ≤ i ∧ i ≤ c.length ∧ k = pmN c k_0 i.toNat ∧ g = nowP c w v k_0 i.toNat ∧ o = outP c k_0 i.toNat) (hn : ∀ (i' : Int) (k' : Int) (g' : Ll) (o' : Ll), 0 ≤ i' ∧ i' ≤ c.length ∧ k' = pmN c k_0 i'.toNat ∧ g' = nowP c w v k_0 i'.toNat ∧ o' = outP c k_0 i'.toNat → (40 - i').toNat < (40 - i).toNat → KK .normal [.i .i64 i', .i .i64 k', .ls true 6 (Ll.len g'), .ls true 7 (Ll.len o')] [] [g', o']) (hx1 : KK (.exit 0) [.i .i64 (Ll.len c), .i .i64 (pmN c k_0 c.length), .ls true 6 (Ll.len (nowP c w v k_0 c.length)), .ls true 7 (Ll.len (outP c k_0 c.length))] [] [(nowP c w v k_0 c.length), (outP c k_0 c.length)]) :
    sCode Try.prog (sCall Try.prog 30 (spOf sp0) noLoop 20) ⟨16, false, noLoop 16⟩ 30 (false :: [false, true, false, true, true, true, true, true, true]) (bodyAt Try.prog 16 [false, true, false, true, true, true, true, true, true]) (hdL (bodyAt Try.prog 16 [false, true, false, true, true, true, true, true, true]) T M 100 6 [(1, .ls false 1 (Ll.len c))] [(0, .list 0 [.int .i64, .int .i64, .int .i64, .int .i64] false h), (1, .list 0 [.int .i64, .int .i64] false c)] [(13, .i .i64 i), (12, .i .i64 k), (10, .ls true 6 (Ll.len g)), (11, .ls true 7 (Ll.len o))] [] [(32, [.int .i64, .int .i64]), (32, [.int .i64, .int .i64])] [g, o] []) (outL 6 (tsOf [13, 12, 10, 11] []) [] [4, 5] [(32, [.int .i64, .int .i64]), (32, [.int .i64, .int .i64])] KK) := by
  refine Eq.mpr (rpum_eq w v i k h c g o T M KK) ?_
  simp only [cond_iff, InK64]
  obtain ⟨i0, i1, rfl, rfl, rfl⟩ := hI
  have hl : Ll.len c = (c.length : Int) := rfl
  have e := col_of p1
  have hlen := e.len
  have pb := pm_b e r2 i.toNat (by omega)
  by_cases h : i < Ll.len c
  · have e1 : (i + 1).toNat = i.toNat + 1 := by omega
    have hN := hn (i + 1) _ _ _ ⟨by omega, by omega, rfl, rfl, rfl⟩ (by omega)
    rw [e1, pmN_succ i0, nowP_succ i0, outP_succ i0] at hN
    have ha := e.at i0 (by omega)
    have hv := e.vol i0 (by omega)
    have eL : ∀ r : List Int, Ll.len (nowP c w v k_0 i.toNat ++ [r]) ≤ 1000000 := fun r => by
      show ((List.length _ : Nat) : Int) ≤ 1000000
      rw [List.length_append, nowP_len, List.length_cons, List.length_nil]; omega
    have eO : ∀ r : List Int, Ll.len (outP c k_0 i.toNat ++ [r]) ≤ 1000000 := fun r => by
      show ((List.length _ : Nat) : Int) ≤ 1000000
      rw [List.length_append, outP_len, List.length_cons, List.length_nil]; omega
    have hmn : minL (Ll.get c i 1) (pmN c k_0 i.toNat) ≤ Ll.get c i 1 ∧ minL (Ll.get c i 1) (pmN c k_0 i.toNat) ≤ pmN c k_0 i.toNat ∧ 0 ≤ minL (Ll.get c i 1) (pmN c k_0 i.toNat) := by
      rw [minL_eq]; split <;> omega
    rw [minL_comm (pmN c k_0 i.toNat)]
    clear hn hx1
    generalize minL (Ll.get c i 1) (pmN c k_0 i.toNat) = m at *
    repeat' (first | exact hN | exact eL _ | exact eO _ | apply And.intro | intro _)
    all_goals first | omega | exact True.intro
  · obtain rfl : i = c.length := by omega
    rw [Int.toNat_natCast]
    repeat' (first | exact hx1 | apply And.intro | intro _)
    all_goals first | omega | exact True.intro
theorem rpum0_eq (w v i k : Int) (h c : Ll) (T : Al (SV (stdA fspl true))) (M : Al (SO (stdA fspl true))) (KK : Ex → List (SV (stdA fspl true)) → List (SO (stdA fspl true)) → List Ll → Prop) : sCode Try.prog (sCall Try.prog 30 (spOf sp0) noLoop 20) ⟨16, false, noLoop 16⟩ 30 (false :: [false, true, false, true, true, true, true, true, true]) (bodyAt Try.prog 16 [false, true, false, true, true, true, true, true, true]) ⟨push [(1, .ls false 1 (Ll.len c)), (13, .i .i64 i), (12, .i .i64 k), (10, .sl 4 0 1 1), (11, .sl 5 0 0 0)] T, 100, push [(0, .list 0 [.int .i64, .int .i64, .int .i64, .int .i64] false h), (1, .list 0 [.int .i64, .int .i64] false c), (4, .row 32 [.i .i64 w, .i .i64 v]), (5, .row 32 [])] M, 6, []⟩ (outL 6 (tsOf [13, 12, 10, 11] []) [] [4, 5] [(32, [.int .i64, .int .i64]), (32, [.int .i64, .int .i64])] KK) =
  (cond (decide (i < (Ll.len c)))
 ((0 : Int) ≤ i ∧ (i < (Ll.len c) ∧ (i < (Ll.len c) ∧ (InK .i64 (k - (minL k (Ll.get c i 1))) ∧ ((0 : Int) ≤ i ∧ (i < (Ll.len c) ∧ (i < (Ll.len c) ∧ ((Ll.len ([[w, v]] ++ [[(Ll.get c i 0), (minL k (Ll.get c i 1))]])) ≤ (1000000 : Int) ∧ ((0 : Int) ≤ i ∧ (i < (Ll.len c) ∧ (i < (Ll.len c) ∧ ((0 : Int) ≤ i ∧ (i < (Ll.len c) ∧ (i < (Ll.len c) ∧ (InK .i64 ((Ll.get c i 1) - (minL k (Ll.get c i 1))) ∧ ((Ll.len [[(Ll.get c i 0), ((Ll.get c i 1) - (minL k (Ll.get c i 1)))]]) ≤ (1000000 : Int) ∧ (InK .i64 (i + (1 : Int)) ∧ (KK .normal [(.i .i64 (i + (1 : Int))), (.i .i64 (k - (minL k (Ll.get c i 1)))), (.ls true 6 (Ll.len ([[w, v]] ++ [[(Ll.get c i 0), (minL k (Ll.get c i 1))]]))), (.ls true 7 (Ll.len [[(Ll.get c i 0), ((Ll.get c i 1) - (minL k (Ll.get c i 1)))]]))] [] [([[w, v]] ++ [[(Ll.get c i 0), (minL k (Ll.get c i 1))]]), [[(Ll.get c i 0), ((Ll.get c i 1) - (minL k (Ll.get c i 1)))]]]))))))))))))))))))
 False) := by kernel_rfl
theorem rpum_go0 (w : Int) (v : Int) (h : Ll) (c : Ll) (i_0 : Int) (k_0 : Int) (T : Al (SV (stdA fspl true))) (M : Al (SO (stdA fspl true))) (KK : Ex → List (SV (stdA fspl true)) → List (SO (stdA fspl true)) → List Ll → Prop) (p1 : (colE h c) = (0 : Int)) (p2 : i_0 = (0 : Int)) (p3 : (0 : Int) ≤ k_0) (p4 : k_0 ≤ (5242880000 : Int)) (hn : ∀ (i' : Int) (k' : Int) (g' : Ll) (o' : Ll), 0 ≤ i' ∧ i' ≤ c.length ∧ k' = pmN c k_0 i'.toNat ∧ g' = nowP c w v k_0 i'.toNat ∧ o' = outP c k_0 i'.toNat → (40 - i').toNat < 5000 → KK .normal [.i .i64 i', .i .i64 k', .ls true 6 (Ll.len g'), .ls true 7 (Ll.len o')] [] [g', o']) (hx1 : KK (.exit 0) [.i .i64 (Ll.len c), .i .i64 (pmN c k_0 c.length), .ls true 6 (Ll.len (nowP c w v k_0 c.length)), .ls true 7 (Ll.len (outP c k_0 c.length))] [] [(nowP c w v k_0 c.length), (outP c k_0 c.length)]) :
    sCode Try.prog (sCall Try.prog 30 (spOf sp0) noLoop 20) ⟨16, false, noLoop 16⟩ 30 (false :: [false, true, false, true, true, true, true, true, true]) (bodyAt Try.prog 16 [false, true, false, true, true, true, true, true, true]) ⟨push [(1, .ls false 1 (Ll.len c)), (13, .i .i64 i_0), (12, .i .i64 k_0), (10, .sl 4 0 1 1), (11, .sl 5 0 0 0)] T, 100, push [(0, .list 0 [.int .i64, .int .i64, .int .i64, .int .i64] false h), (1, .list 0 [.int .i64, .int .i64] false c), (4, .row 32 [.i .i64 w, .i .i64 v]), (5, .row 32 [])] M, 6, []⟩ (outL 6 (tsOf [13, 12, 10, 11] []) [] [4, 5] [(32, [.int .i64, .int .i64]), (32, [.int .i64, .int .i64])] KK) := by
  refine Eq.mpr (rpum0_eq w v i_0 k_0 h c T M KK) ?_
  simp only [cond_iff, InK64]
  obtain rfl := p2
  have hl : Ll.len c = (c.length : Int) := rfl
  have e := col_of p1
  have hlen := e.len
  have hN := hn 1 _ _ _ ⟨by omega, by omega, rfl, rfl, rfl⟩ (by decide)
  have e1 : (1 : Int).toNat = (0 : Int).toNat + 1 := rfl
  have i0 : (0 : Int) ≤ 0 := Int.le_refl _
  rw [e1, pmN_succ i0, nowP_succ i0, outP_succ i0] at hN
  have z1 : pmN c k_0 (0 : Int).toNat = k_0 := rfl
  have z2 : nowP c w v k_0 (0 : Int).toNat = [[w, v]] := rfl
  have z3 : outP c k_0 (0 : Int).toNat = [] := rfl
  rw [z1, z2, z3, List.nil_append] at hN
  have ha := e.at i0 (by omega)
  have hv := e.vol i0 (by omega)
  have hmn : minL (Ll.get c 0 1) k_0 ≤ Ll.get c 0 1 ∧ minL (Ll.get c 0 1) k_0 ≤ k_0 ∧ 0 ≤ minL (Ll.get c 0 1) k_0 := by
    rw [minL_eq]; split <;> omega
  rw [minL_comm k_0]
  clear hn hx1
  simp only [Int.zero_add]
  generalize minL (Ll.get c 0 1) k_0 = m at *
  repeat' (first | exact hN | apply And.intro | intro _)
  all_goals first | omega | exact True.intro | (show ((2 : Nat) : Int) ≤ 1000000; omega) | (show ((1 : Nat) : Int) ≤ 1000000; omega)
abbrev rpumF {A : Go.Rx.Alg} : Code → Go.Rx.SS A → (Go.Rx.Ex → Go.Rx.SS A → A.R) → A.R := fun c_ s_ K_ => match s_.T.get 1, s_.H.get 0, s_.H.get 1, s_.T.get 13, s_.T.get 12, s_.T.get 10, s_.T.get 11, s_.H.get 4, s_.H.get 5 with
  | some (.ls false 1 m1), some (.list t2 k2 false h), some (.list t3 k3 false c), some (.i .i64 i), some (.i .i64 k), some (.sl 4 0 1 1), some (.sl 5 0 0 0), some (.row t4 [.i .i64 w, .i .i64 v]), some (.row t5 []) => bif (((((((Nat.beq s_.N 100 && Nat.beq s_.nx 6) && Nat.beq t2 0) && decide (k2 = [.int .i64, .int .i64, .int .i64, .int .i64])) && Nat.beq t3 0) && decide (k3 = [.int .i64, .int .i64])) && Nat.beq t4 32) && Nat.beq t5 32) then (A.need .eql m1 (A.len c) (A.need .eql (A.app 3 [h, c] []) (A.lit 0) (A.need .eql i (A.lit 0) (A.need .leq (A.lit 0) k (A.need .leq k (A.lit 5242880000) (K_ (.exit 0) (Go.Rx.hdL c_ s_.T (Go.Rx.kills [4, 5] s_.H) 100 6 [(1, .ls false 1 (A.len c))] [(0, .list 0 [.int .i64, .int .i64, .int .i64, .int .i64] false h), (1, .list 0 [.int .i64, .int .i64] false c)] [(13, .i .i64 (A.len c)), (12, .i .i64 (A.app 5 [c] [k])), (10, .ls true 6 (A.len (A.appL 51 [c] [w, v, k]))), (11, .ls true 7 (A.len (A.appL 52 [c] [k])))] [] [(32, [.int .i64, .int .i64]), (32, [.int .i64, .int .i64])] [(A.appL 51 [c] [w, v, k]), (A.appL 52 [c] [k])] (Go.Rx.addW ([4, 5] ++ []) s_.wr)))))))) else A.fail "frame of rpum"
  | _, _, _, _, _, _, _, _, _ => A.fail "rpum"
theorem rpumF_ok {d : Nat} (hd : 100 ≤ d) : LoopOK (fs := fspl) (ov := true) Try.prog AW d 16 [false, true, false, true, true, true, true, true, true] false rpumF := by
  intro m_ hm_ fn_ c0_ hfn_ hb_ c_ ro_ hro_ hc_ s_ K_ W_ ν_ S_ h_ hs_
  obtain rfl := body_of hfn_ hb_ hc_
  unfold rpumF at h_
  split at h_
  · rename_i m1_0 t2 k2 h_0 t3 k3 c_0 i_0_0 k_0_0 t4 w_0 v_0 t5 g0 g1 g2 g3 g4 g5 g6 g7 g8
    obtain ⟨m1, rfl⟩ : ∃ q : Int, q = m1_0 := ⟨m1_0, rfl⟩
    obtain ⟨h, rfl⟩ : ∃ q : Ll, q = h_0 := ⟨h_0, rfl⟩
    obtain ⟨c, rfl⟩ : ∃ q : Ll, q = c_0 := ⟨c_0, rfl⟩
    obtain ⟨i_0, rfl⟩ : ∃ q : Int, q = i_0_0 := ⟨i_0_0, rfl⟩
    obtain ⟨k_0, rfl⟩ : ∃ q : Int, q = k_0_0 := ⟨k_0_0, rfl⟩
    obtain ⟨w, rfl⟩ : ∃ q : Int, q = w_0 := ⟨w_0, rfl⟩
    obtain ⟨v, rfl⟩ : ∃ q : Int, q = v_0 := ⟨v_0, rfl⟩
    obtain ⟨T_, FN_, M_, snx_, wr_⟩ := s_
    have hN : (((((((Nat.beq FN_ 100 && Nat.beq snx_ 6) && Nat.beq t2 0) && decide (k2 = [.int .i64, .int .i64, .int .i64, .int .i64])) && Nat.beq t3 0) && decide (k3 = [.int .i64, .int .i64])) && Nat.beq t4 32) && Nat.beq t5 32) = true := by
      cases hq : ((((((((Nat.beq FN_ 100 && Nat.beq snx_ 6) && Nat.beq t2 0) && decide (k2 = [.int .i64, .int .i64, .int .i64, .int .i64])) && Nat.beq t3 0) && decide (k3 = [.int .i64, .int .i64])) && Nat.beq t4 32) && Nat.beq t5 32) : Bool) with
      | true => rfl
      | false => (rw [hq] at h_; exact h_.elim)
    rw [hN, cond_true] at h_
    simp only [Bool.and_eq_true, beq_iff, decide_eq_true_eq] at hN
    obtain ⟨⟨⟨⟨⟨⟨⟨rfl, rfl⟩, rfl⟩, rfl⟩, rfl⟩, rfl⟩, rfl⟩, rfl⟩ := hN
    obtain ⟨q0, h_⟩ := h_
    obtain rfl : m1 = (Ll.len c) := q0
    obtain ⟨q1, h_⟩ := h_
    have q1 : (colE h c) = (0 : Int) := q1
    obtain ⟨q2, h_⟩ := h_
    have q2 : i_0 = (0 : Int) := q2
    obtain ⟨q3, h_⟩ := h_
    have q3 : (0 : Int) ≤ k_0 := q3
    obtain ⟨q4, h_⟩ := h_
    have q4 : k_0 ≤ (5242880000 : Int) := q4
    replace h_ : K_ (.exit 0) (hdL (bodyAt Try.prog 16 [false, true, false, true, true, true, true, true, true]) T_ (kills [4, 5] M_) 100 6 [(1, .ls false 1 (Ll.len c))] [(0, .list 0 [.int .i64, .int .i64, .int .i64, .int .i64] false h), (1, .list 0 [.int .i64, .int .i64] false c)] [(13, .i .i64 (Ll.len c)), (12, .i .i64 (pmN c k_0 c.length)), (10, .ls true 6 (Ll.len (nowP c w v k_0 c.length))), (11, .ls true 7 (Ll.len (outP c k_0 c.length)))] [] [(32, [.int .i64, .int .i64]), (32, [.int .i64, .int .i64])] [(nowP c w v k_0 c.length), (outP c k_0 c.length)] (addW ([4, 5] ++ []) wr_)) := h_
    have hx1 : K_ (.exit 0) (hdL (bodyAt Try.prog 16 [false, true, false, true, true, true, true, true, true]) T_ (kills [4, 5] M_) 100 6 [(1, .ls false 1 (Ll.len c))] [(0, .list 0 [.int .i64, .int .i64, .int .i64, .int .i64] false h), (1, .list 0 [.int .i64, .int .i64] false c)] [(13, .i .i64 (Ll.len c)), (12, .i .i64 (pmN c k_0 c.length)), (10, .ls true 6 (Ll.len (nowP c w v k_0 c.length))), (11, .ls true 7 (Ll.len (outP c k_0 c.length)))] [] [(32, [.int .i64, .int .i64]), (32, [.int .i64, .int .i64])] [(nowP c w v k_0 c.length), (outP c k_0 c.length)] (addW ([4, 5] ++ []) wr_)) := by
      have h2 := h_
      exact h2
    refine loop_ruleF (fs := fspl) (ov := true) (s := ⟨T_, 100, M_, 6, wr_⟩) (X := Int × Int × Ll × Ll) (B := []) (mv := [4, 5]) (kt := [(1, .ls false 1 (Ll.len c))]) (kr := [(0, .list 0 [.int .i64, .int .i64, .int .i64, .int .i64] false h), (1, .list 0 [.int .i64, .int .i64] false c)]) (kt0 := [(1, .ls false 1 (Ll.len c)), (13, .i .i64 i_0), (12, .i .i64 k_0), (10, .sl 4 0 1 1), (11, .sl 5 0 0 0)]) (kr0 := [(0, .list 0 [.int .i64, .int .i64, .int .i64, .int .i64] false h), (1, .list 0 [.int .i64, .int .i64] false c), (4, .row 32 [.i .i64 w, .i .i64 v]), (5, .row 32 [])]) (ty := [(32, [.int .i64, .int .i64]), (32, [.int .i64, .int .i64])]) (m := 5000)
      (Inv := (fun x_ : Int × Int × Ll × Ll => match x_ with | (i, k, g, o) => 0 ≤ i ∧ i ≤ c.length ∧ k = pmN c k_0 i.toNat ∧ g = nowP c w v k_0 i.toNat ∧ o = outP c k_0 i.toNat)) (μ := (fun x_ : Int × Int × Ll × Ll => match x_ with | (i, k, g, o) => (40 - i).toNat)) (ts := tsOf [13, 12, 10, 11] []) (sl := (fun x_ : Int × Int × Ll × Ll => match x_ with | (i, k, g, o) => [.i .i64 i, .i .i64 k, .ls true 6 (Ll.len g), .ls true 7 (Ll.len o)])) (bl := (fun x_ : Int × Int × Ll × Ll => match x_ with | (i, k, g, o) => [])) (ll := (fun x_ : Int × Int × Ll × Ll => match x_ with | (i, k, g, o) => [g, o])) (Q := fun e_ vs_ os_ hs_ => K_ e_ (hdL (bodyAt Try.prog 16 [false, true, false, true, true, true, true, true, true]) T_ (kills [4, 5] M_) 100 6 [(1, .ls false 1 (Ll.len c))] [(0, .list 0 [.int .i64, .int .i64, .int .i64, .int .i64] false h), (1, .list 0 [.int .i64, .int .i64] false c)] (((tsOf [13, 12, 10, 11] []) e_).zip vs_) ([].zip os_) [(32, [.int .i64, .int .i64]), (32, [.int .i64, .int .i64])] hs_ (addW ([4, 5] ++ []) wr_)))
      (L := LL) (U := 30) (cs := sCall Try.prog 30 (spOf sp0) noLoop 20) (call := CN Try.prog AW m_) (lp := ⟨16, false, noLoop 16⟩) (root := c0_) (p := [false, true, false, true, true, true, true, true, true])
      (show CallSOK _ _ from by
        have := sCall_ok (P := Try.prog) (d := m_ - 20) (U := 30) (lp := noLoop) (sp0_ok (fs := fspl) (ov := true) (d := m_ - 20)) (sp0_aw (fs := fspl) (ov := true)) (noLoop_ok) (by decide) rfl 20
        rwa [show 20 + (m_ - 20) = m_ by omega] at this) (ctx_of (g := 16) (rg := false) (at_ := noLoop 16) (fun p rg f h => by cases h) hfn_ hb_ hro_) (by decide) hc_
      (fun x o ho => by cases ho)
      (fun x hx => by cases hx) (fun x hx => by
        simp only [List.mem_cons, List.not_mem_nil, or_false] at hx
        rcases hx with rfl | rfl
        · exact ⟨_, g7, rfl⟩
        · exact ⟨_, g8, rfl⟩) (fun x hx => by cases hx)
      (fun x hx => by
        simp only [List.mem_cons, List.not_mem_nil, or_false] at hx
        rcases hx with rfl
        · exact g0) (fun x hx => by
        simp only [List.mem_cons, List.not_mem_nil, or_false] at hx
        rcases hx with rfl | rfl
        · exact ⟨g1, by simp⟩
        · exact ⟨g2, by simp⟩) ?_ (fun _ _ _ _ _ h => h) (by decide) (fun x hx => by
        simp only [List.mem_cons, List.not_mem_nil, or_false] at hx
        rcases hx with rfl | rfl | rfl | rfl | rfl
        · exact g0
        · exact g3
        · exact g4
        · exact g5
        · exact g6) (fun x hx => by
        simp only [List.mem_cons, List.not_mem_nil, or_false] at hx
        rcases hx with rfl | rfl | rfl | rfl
        · exact g1
        · exact g2
        · exact g7
        · exact g8) ?_ hs_
    · rintro ⟨i, k, g, o⟩ hI
      exact rpum_go w v h c i k g o i_0 k_0 q2 q3 q4 T_ (kills [4, 5] M_) _ q1 hI (fun i' k' g' o' ha hb => ⟨(i', k', g', o'), ha, hb, rfl, rfl, rfl⟩) (⟨by simp [SO.mine], hx1⟩)
    · exact rpum_go0 w v h c i_0 k_0 T_ M_ _ q1 q2 q3 q4 (fun i' k' g' o' ha hb => ⟨(i', k', g', o'), ha, hb, rfl, rfl, rfl⟩) (⟨by simp [SO.mine], hx1⟩)
  · exact h_.elim
abbrev lpPum {A : Go.Rx.Alg} : Nat → Go.Rx.LoopS A := Go.Rx.lpOf [(15, [false, true, false, true, true, true, true, true, true], false, pumF)]
theorem lpPum_ok {d : Nat} (hd : 100 ≤ d) : LoopsAll (fs := fspl) (ov := true) Try.prog AW d lpPum := lpOf_ok fun x hx => by
  simp only [List.mem_cons, List.not_mem_nil, or_false] at hx
  rcases hx with rfl
  · exact pumF_ok (by omega)
abbrev lpRpum {A : Go.Rx.Alg} : Nat → Go.Rx.LoopS A := Go.Rx.lpOf [(16, [false, true, false, true, true, true, true, true, true], false, rpumF)]
theorem lpRpum_ok {d : Nat} (hd : 100 ≤ d) : LoopsAll (fs := fspl) (ov := true) Try.prog AW d lpRpum := lpOf_ok fun x hx => by
  simp only [List.mem_cons, List.not_mem_nil, or_false] at hx
  rcases hx with rfl
  · exact rpumF_ok (by omega)
abbrev hcolS {A : Go.Rx.Alg} : List (Go.Rx.SV A) → Go.Rx.SH A → Nat → Go.Rx.KS A → A.R := fun args_ M_ snx_ K_ => match args_ with
  | [.agg [x_h], x_c] => (match Go.Rx.lsArg M_ [.int .i64, .int .i64, .int .i64, .int .i64] x_h with | some (h, n_h) => (A.need .eql n_h (A.len h) (match Go.Rx.lsArg M_ [.int .i64, .int .i64] x_c with | some (c, n_c) => (A.need .eql n_c (A.len c) (K_ (.i .i64 (A.app 3 [h, c] [])) M_ snx_ [])) | none => A.fail "hcol")) | none => A.fail "hcol")
  | _ => A.fail "hcol"
theorem hcolS_ok {ov : Bool} {d : Nat} (hd : 3000 ≤ d) : SpecOK (fs := fspl) (ov := ov) Try.prog AW d 18 hcolS := by
  intro m_ hm_ args_ M_ snx_ K_ h_ ν_ largs_ H_ nx_ ha_ hM_
  unfold hcolS at h_
  split at h_
  · rename_i x_h x_c
    obtain ⟨y1, r1, rfl, ⟨l1, rfl, ⟨v_h, r2, rfl, hx_h, rfl⟩⟩, ⟨v_c, r3, rfl, hx_c, rfl⟩⟩ := ha_
    split at h_
    · rename_i h n_h q_h
      obtain ⟨e_h, h_⟩ := h_
      split at h_
      · rename_i c n_c q_c
        obtain ⟨e_c, h_⟩ := h_
        exact pure_got (col_pure (by omega) (lsArg_ok hM_ hx_h q_h e_h) (lsArg_ok hM_ hx_c q_c e_c)) hM_ (v := .i .i64 _) rfl h_
      · exact h_.elim
    · exact h_.elim
  · exact h_.elim
abbrev hrcolS {A : Go.Rx.Alg} : List (Go.Rx.SV A) → Go.Rx.SH A → Nat → Go.Rx.KS A → A.R := fun args_ M_ snx_ K_ => match args_ with
  | [.agg [x_h], x_c] => (match Go.Rx.lsArg M_ [.int .i64, .int .i64, .int .i64, .int .i64] x_h with | some (h, n_h) => (A.need .eql n_h (A.len h) (match Go.Rx.lsArg M_ [.int .i64, .int .i64] x_c with | some (c, n_c) => (A.need .eql n_c (A.len c) (K_ (.i .i64 (A.app 3 [h, c] [])) M_ snx_ [])) | none => A.fail "hrcol")) | none => A.fail "hrcol")
  | _ => A.fail "hrcol"
theorem hrcolS_ok {ov : Bool} {d : Nat} (hd : 3000 ≤ d) : SpecOK (fs := fspl) (ov := ov) Try.prog AW d 36 hrcolS := by
  intro m_ hm_ args_ M_ snx_ K_ h_ ν_ largs_ H_ nx_ ha_ hM_
  unfold hrcolS at h_
  split at h_
  · rename_i x_h x_c
    obtain ⟨y1, r1, rfl, ⟨l1, rfl, ⟨v_h, r2, rfl, hx_h, rfl⟩⟩, ⟨v_c, r3, rfl, hx_c, rfl⟩⟩ := ha_
    split at h_
    · rename_i h n_h q_h
      obtain ⟨e_h, h_⟩ := h_
      split at h_
      · rename_i c n_c q_c
        obtain ⟨e_c, h_⟩ := h_
        exact pure_got (rcol_pure (by omega) (lsArg_ok hM_ hx_h q_h e_h) (lsArg_ok hM_ hx_c q_c e_c)) hM_ (v := .i .i64 _) rfl h_
      · exact h_.elim
    · exact h_.elim
  · exact h_.elim
abbrev hvolS {A : Go.Rx.Alg} : List (Go.Rx.SV A) → Go.Rx.SH A → Nat → Go.Rx.KS A → A.R := fun args_ M_ snx_ K_ => match args_ with
  | [.agg [x_l]] => (match Go.Rx.lsArg M_ [.int .i64, .int .i64, .int .i64, .int .i64] x_l with | some (l, n_l) => (A.need .eql n_l (A.len l) (K_ (.i .i64 (A.app 2 [l] [])) M_ snx_ [])) | none => A.fail "hvol")
  | _ => A.fail "hvol"
theorem hvolS_ok {ov : Bool} {d : Nat} (hd : 1000 ≤ d) : SpecOK (fs := fspl) (ov := ov) Try.prog AW d 20 hvolS := by
  intro m_ hm_ args_ M_ snx_ K_ h_ ν_ largs_ H_ nx_ ha_ hM_
  unfold hvolS at h_
  split at h_
  · rename_i x_l
    obtain ⟨y1, r1, rfl, ⟨l1, rfl, ⟨v_l, r2, rfl, hx_l, rfl⟩⟩, rfl⟩ := ha_
    split at h_
    · rename_i l n_l q_l
      obtain ⟨e_l, h_⟩ := h_
      exact pure_got (vol_pure (by omega) (lsArg_ok hM_ hx_l q_l e_l)) hM_ (v := .i .i64 _) rfl h_
    · exact h_.elim
  · exact h_.elim
abbrev hrvolS {A : Go.Rx.Alg} : List (Go.Rx.SV A) → Go.Rx.SH A → Nat → Go.Rx.KS A → A.R := fun args_ M_ snx_ K_ => match args_ with
  | [.agg [x_l]] => (match Go.Rx.lsArg M_ [.int .i64, .int .i64, .int .i64, .int .i64] x_l with | some (l, n_l) => (A.need .eql n_l (A.len l) (K_ (.i .i64 (A.app 2 [l] [])) M_ snx_ [])) | none => A.fail "hrvol")
  | _ => A.fail "hrvol"
theorem hrvolS_ok {ov : Bool} {d : Nat} (hd : 1000 ≤ d) : SpecOK (fs := fspl) (ov := ov) Try.prog AW d 28 hrvolS := by
  intro m_ hm_ args_ M_ snx_ K_ h_ ν_ largs_ H_ nx_ ha_ hM_
  unfold hrvolS at h_
  split at h_
  · rename_i x_l
    obtain ⟨y1, r1, rfl, ⟨l1, rfl, ⟨v_l, r2, rfl, hx_l, rfl⟩⟩, rfl⟩ := ha_
    split at h_
    · rename_i l n_l q_l
      obtain ⟨e_l, h_⟩ := h_
      exact pure_got (rvol_pure (by omega) (lsArg_ok hM_ hx_l q_l e_l)) hM_ (v := .i .i64 _) rfl h_
    · exact h_.elim
  · exact h_.elim
abbrev spPu {A : Go.Rx.Alg} : Go.Rx.SpL A := [(AW, Go.Rx.awakeS), (18, hcolS), (20, hvolS), (19, plaFS)]
theorem spPu_ok {ov : Bool} {d : Nat} (hd : 3000 ≤ d) : SpOK (fs := fspl) (ov := ov) Try.prog AW d spPu := SpOK.cons awake_ok (SpOK.cons (hcolS_ok (by omega)) (SpOK.cons (hvolS_ok (by omega)) (SpOK.cons (plaFS_ok (by omega)) SpOK.nil)))
theorem spPu_aw {fs : Fs} {ov : Bool} : (spOf (A := stdA fs ov) spPu AW).isSome = true := rfl
abbrev spRpu {A : Go.Rx.Alg} : Go.Rx.SpL A := [(AW, Go.Rx.awakeS), (36, hrcolS), (28, hrvolS), (37, rplFS)]
theorem spRpu_ok {ov : Bool} {d : Nat} (hd : 3000 ≤ d) : SpOK (fs := fspl) (ov := ov) Try.prog AW d spRpu := SpOK.cons awake_ok (SpOK.cons (hrcolS_ok (by omega)) (SpOK.cons (hrvolS_ok (by omega)) (SpOK.cons (rplFS_ok (by omega)) SpOK.nil)))
theorem spRpu_aw {fs : Fs} {ov : Bool} : (spOf (A := stdA fs ov) spRpu AW).isSome = true := rfl
theorem pump_eq (w v : Int) (h c : Ll) (KK : KS (stdA fspl true)) : sFunc Try.prog 30 (sCall Try.prog 30 (spOf spPu) lpPum 20) lpPum 15 [.agg [.ls false 0 (Ll.len h)], .ls false 1 (Ll.len c), .agg [.i .i64 w, .i .i64 v]] (lsMem 0 [([.int .i64, .int .i64, .int .i64, .int .i64], h), ([.int .i64, .int .i64], c)]) 2 KK =
  ((Ll.len h) = (Ll.len h) ∧ ((Ll.len c) = (Ll.len c) ∧ (cond (decide ((colE h c) ≠ (0 : Int)))
 (KK (.tup [.nils, .nils, (.i .i64 (colE h c))]) (lsMem 0 [([.int .i64, .int .i64, .int .i64, .int .i64], h), ([.int .i64, .int .i64], c)]) 2 [])
 (cond (decide (w ≥ (0 : Int)))
 (cond (!(decide (w ≤ (40000 : Int))))
 (KK (.tup [.nils, .nils, (.i .i64 (2 : Int))]) (lsMem 0 [([.int .i64, .int .i64, .int .i64, .int .i64], h), ([.int .i64, .int .i64], c)]) 2 [])
 (cond (decide (v < (1 : Int)))
 (KK (.tup [.nils, .nils, (.i .i64 (2 : Int))]) (lsMem 0 [([.int .i64, .int .i64, .int .i64, .int .i64], h), ([.int .i64, .int .i64], c)]) 2 [])
 ((Ll.len h) = (Ll.len h) ∧ (cond (decide (v > (holeV h)))
 (KK (.tup [.nils, .nils, (.i .i64 (2 : Int))]) (lsMem 0 [([.int .i64, .int .i64, .int .i64, .int .i64], h), ([.int .i64, .int .i64], c)]) 2 [])
 ((Ll.len h) = (Ll.len h) ∧ (InK .i64 ((holeV h) - v) ∧ ((Ll.len c) = (Ll.len c) ∧ ((Ll.len c) = (Ll.len c) ∧ ((colE h c) = (0 : Int) ∧ ((0 : Int) = (0 : Int) ∧ ((0 : Int) ≤ ((holeV h) - v) ∧ (((holeV h) - v) ≤ (5242880000 : Int) ∧ ((Ll.len (nowP c w v ((holeV h) - v) c.length)) = (Ll.len (nowP c w v ((holeV h) - v) c.length)) ∧ ((Ll.len (nowP c w v ((holeV h) - v) c.length)) ≤ (1000 : Int) ∧ ((Ll.len (outP c ((holeV h) - v) c.length)) = (Ll.len (outP c ((holeV h) - v) c.length)) ∧ ((Ll.len (outP c ((holeV h) - v) c.length)) ≤ (1000 : Int) ∧ (cond (decide ((Ll.len (plainL (nowP c w v ((holeV h) - v) c.length))) > (24 : Int)))
 (KK (.tup [.nils, .nils, (.i .i64 (8 : Int))]) (lsMem 0 [([.int .i64, .int .i64, .int .i64, .int .i64], h), ([.int .i64, .int .i64], c)]) 2 [])
 ((Ll.len (plainL (nowP c w v ((holeV h) - v) c.length))) = (Ll.len (plainL (nowP c w v ((holeV h) - v) c.length))) ∧ ((Ll.len (plainL (outP c ((holeV h) - v) c.length))) = (Ll.len (plainL (outP c ((holeV h) - v) c.length))) ∧ (KK (.tup [(.ls true 2 (Ll.len (plainL (nowP c w v ((holeV h) - v) c.length)))), (.ls true 3 (Ll.len (plainL (outP c ((holeV h) - v) c.length)))), (.i .i64 (0 : Int))]) (Al.set (Al.set (lsMem 0 [([.int .i64, .int .i64, .int .i64, .int .i64], h), ([.int .i64, .int .i64], c)]) 2 (some (.list 32 [.int .i64, .int .i64] true (plainL (nowP c w v ((holeV h) - v) c.length))))) 3 (some (.list 32 [.int .i64, .int .i64] true (plainL (outP c ((holeV h) - v) c.length))))) 5 []))))))))))))))))))))
 (KK (.tup [.nils, .nils, (.i .i64 (2 : Int))]) (lsMem 0 [([.int .i64, .int .i64, .int .i64, .int .i64], h), ([.int .i64, .int .i64], c)]) 2 []))))) := by kernel_rfl
theorem pump_gives {m : Nat} (hm : 3100 ≤ m) {H : Hp} {nx : Nat} (w v : Int) {v_h : LV} {h : Ll} (hl_h : IsL H nx [.int .i64, .int .i64, .int .i64, .int .i64] h v_h) {v_c : LV} {c : Ll} (hl_c : IsL H nx [.int .i64, .int .i64] c v_c) : GivesV Try.prog AW m 15 [.agg [v_h], v_c, .agg [.i .i64 w, .i .i64 v]] H nx (.tup [.ls true 0 (Ll.len (pmA h c w v)), .ls true 1 (Ll.len (pmO h c w v)), .i .i64 (pmE h c w v)]) [(32, [.int .i64, .int .i64], true, (pmA h c w v)), (32, [.int .i64, .int .i64], true, (pmO h c w v))] := by
  obtain ⟨ν, n1, n2, n3, n4⟩ := ls_in (fs := fspl) (ov := true) (l := [([.int .i64, .int .i64, .int .i64, .int .i64], h), ([.int .i64, .int .i64], c)]) (lvs := [v_h, v_c]) 0 (fun i x lv e1 e2 => by
    cases i with
    | zero => simp at e1 e2; subst e1 e2; exact hl_h
    | succ i =>
      cases i with
      | zero => simp at e1 e2; subst e1 e2; exact hl_c
      | succ i =>
        simp at e1) rfl
  refine gv_of (n := 20) (d := m - 21) (U := 30) (fs := fspl) (ov := true) (spPu_ok (by omega)) spPu_aw (lpPum_ok (by omega)) (by decide) (by decide) (by omega) (args := [.agg [.ls false 0 (Ll.len h)], .ls false 1 (Ll.len c), .agg [.i .i64 w, .i .i64 v]]) (M := lsMem 0 [([.int .i64, .int .i64, .int .i64, .int .i64], h), ([.int .i64, .int .i64], c)]) (snx := 2) ?_ ?_ (VSL.cons ⟨_, rfl, (VSL.cons (n4 0 _ _ rfl rfl) rfl)⟩ (VSL.cons (n4 1 _ _ rfl rfl) (VSL.cons ⟨_, rfl, (VSL.cons rfl (VSL.cons rfl rfl))⟩ rfl))) (hs_in n2 n3)
  rw [pump_eq]
  · simp only [cond_iff, cond_not, InK64]
    have hlh : Ll.len h = (h.length : Int) := rfl
    have hlc : Ll.len c = (c.length : Int) := rfl
    have cE : pmE h c w v = if ¬ colE h c = 0 then colE h c else if w < 0 ∨ 40000 < w ∨ v < 1 ∨ volN h h.length < v then 2 else if 24 < (plainL (nowP c w v (volN h h.length - v) c.length)).length then 8 else 0 := rfl
    have cA : pmA h c w v = if pmE h c w v = 0 then plainL (nowP c w v (volN h h.length - v) c.length) else [] := rfl
    have cO : pmO h c w v = if pmE h c w v = 0 then plainL (outP c (volN h h.length - v) c.length) else [] := rfl
    have eNo : ¬ pmE h c w v = 0 → giveV (fs := fspl) (ov := true) 2 (.tup [.ls true 0 (Ll.len (pmA h c w v)), .ls true 1 (Ll.len (pmO h c w v)), .i .i64 (pmE h c w v)]) [(32, [.int .i64, .int .i64], true, pmA h c w v), (32, [.int .i64, .int .i64], true, pmO h c w v)] (.tup [.nils, .nils, .i .i64 (pmE h c w v)]) (lsMem 0 [([.int .i64, .int .i64, .int .i64, .int .i64], h), ([.int .i64, .int .i64], c)]) 2 [] := fun hz => by
      rw [cA, cO, if_neg hz, if_neg hz]
      end_gv [none, none]
    by_cases h0 : colE h c = 0
    · have e := col_of h0
      have p0 := e.hole
      have hlen := e.len
      have hz := hole_zero p0
      have eV : holeV h = volN h h.length := by unfold holeV; rw [if_pos hz]
      have hb := p0.b (n := h.length) (Nat.le_refl _)
      rw [if_neg (fun hc => hc h0)] at cE
      rw [eV]
      have eL : Ll.len (nowP c w v (volN h h.length - v) c.length) ≤ 1000 := by
        show ((List.length _ : Nat) : Int) ≤ 1000
        rw [nowP_len]; omega
      have eO : Ll.len (outP c (volN h h.length - v) c.length) ≤ 1000 := by
        show ((List.length _ : Nat) : Int) ≤ 1000
        rw [outP_len]; omega
      by_cases hr : w < 0 ∨ 40000 < w ∨ v < 1 ∨ volN h h.length < v
      · rw [if_pos hr] at cE
        have eN := eNo (by rw [cE]; decide)
        rw [cE] at eN ⊢
        repeat' (first | exact eN | apply And.intro | intro _)
        all_goals first | omega | exact True.intro | (exfalso; omega)
      · rw [if_neg hr] at cE
        have hlp : Ll.len (plainL (nowP c w v (volN h h.length - v) c.length)) = ((plainL (nowP c w v (volN h h.length - v) c.length)).length : Int) := rfl
        by_cases hf : 24 < (plainL (nowP c w v (volN h h.length - v) c.length)).length
        · rw [if_pos hf] at cE
          have eN := eNo (by rw [cE]; decide)
          rw [cE] at eN ⊢
          repeat' (first | exact eN | exact eL | exact eO | apply And.intro | intro _)
          all_goals first | omega | exact True.intro | (exfalso; omega)
        · rw [if_neg hf] at cE
          rw [if_pos cE] at cA cO
          rw [cE, cA, cO]
          generalize plainL (nowP c w v (volN h h.length - v) c.length) = X at *
          generalize plainL (outP c (volN h h.length - v) c.length) = Y at *
          repeat' (first | exact eL | exact eO | end_gv [some 2, some 3] | apply And.intro | intro _)
          all_goals first | omega | exact True.intro | (exfalso; omega)
    · rw [if_pos h0] at cE
      have eN := eNo (by rw [cE]; exact h0)
      rw [cE] at eN ⊢
      repeat' (first | exact eN | apply And.intro | intro _)
      all_goals first | omega | exact True.intro | (exfalso; omega)
  · intro o ho
    simp only [List.mem_cons, List.not_mem_nil, or_false] at ho
    rcases ho with rfl | rfl
    · exact pmA_rows h c w v
    · exact pmO_rows h c w v
abbrev pumpS {A : Go.Rx.Alg} : List (Go.Rx.SV A) → Go.Rx.SH A → Nat → Go.Rx.KS A → A.R := fun args_ M_ snx_ K_ => match args_ with
  | [.agg [x_h], x_c, .agg [.i .i64 w, .i .i64 v]] => (match Go.Rx.lsArg M_ [.int .i64, .int .i64, .int .i64, .int .i64] x_h with | some (h, n_h) => (A.need .eql n_h (A.len h) (match Go.Rx.lsArg M_ [.int .i64, .int .i64] x_c with | some (c, n_c) => (A.need .eql n_c (A.len c) ((M_.set (snx_) (some (.list 32 [.int .i64, .int .i64] true (A.appL 53 [h, c] [w, v])))).force fun M_ => ((M_.set (snx_ + 1) (some (.list 32 [.int .i64, .int .i64] true (A.appL 54 [h, c] [w, v])))).force fun M_ => (K_ (.tup [.ls true (snx_ + 0) (A.len (A.appL 53 [h, c] [w, v])), .ls true (snx_ + 1) (A.len (A.appL 54 [h, c] [w, v])), .i .i64 (A.app 6 [h, c] [w, v])]) M_ (snx_ + 2 + 1) [])))) | none => A.fail "pump")) | none => A.fail "pump")
  | _ => A.fail "pump"
theorem pumpS_ok {ov : Bool} {d : Nat} (hd : 3100 ≤ d) : SpecOK (fs := fspl) (ov := ov) Try.prog AW d 15 pumpS := by
  intro m_ hm_ args_ M_ snx_ K_ h_ ν_ largs_ H_ nx_ ha_ hM_
  unfold pumpS at h_
  split at h_
  · rename_i x_h x_c w v
    obtain ⟨y1, r1, rfl, ⟨l1, rfl, ⟨v_h, r2, rfl, hx_h, rfl⟩⟩, ⟨v_c, r3, rfl, hx_c, ⟨y4, r4, rfl, ⟨l4, rfl, ⟨y5, r5, rfl, rfl, ⟨y6, r6, rfl, rfl, rfl⟩⟩⟩, rfl⟩⟩⟩ := ha_
    split at h_
    · rename_i h n_h q_h
      obtain ⟨e_h, h_⟩ := h_
      split at h_
      · rename_i c n_c q_c
        obtain ⟨e_c, h_⟩ := h_
        exact gv_got (pump_gives (by omega) w v (lsArg_ok hM_ hx_h q_h e_h) (lsArg_ok hM_ hx_c q_c e_c)) hM_ h_
      · exact h_.elim
    · exact h_.elim
  · exact h_.elim
theorem rpump_eq (w v : Int) (h c : Ll) (KK : KS (stdA fspl true)) : sFunc Try.prog 30 (sCall Try.prog 30 (spOf spRpu) lpRpum 20) lpRpum 16 [.agg [.ls false 0 (Ll.len h)], .ls false 1 (Ll.len c), .agg [.i .i64 w, .i .i64 v]] (lsMem 0 [([.int .i64, .int .i64, .int .i64, .int .i64], h), ([.int .i64, .int .i64], c)]) 2 KK =
  ((Ll.len h) = (Ll.len h) ∧ ((Ll.len c) = (Ll.len c) ∧ (cond (decide ((colE h c) ≠ (0 : Int)))
 (KK (.tup [.nils, .nils, (.i .i64 (colE h c))]) (lsMem 0 [([.int .i64, .int .i64, .int .i64, .int .i64], h), ([.int .i64, .int .i64], c)]) 2 [])
 (cond (decide (w < (0 : Int)))
 (KK (.tup [.nils, .nils, (.i .i64 (2 : Int))]) (lsMem 0 [([.int .i64, .int .i64, .int .i64, .int .i64], h), ([.int .i64, .int .i64], c)]) 2 [])
 (cond (decide (w > (40000 : Int)))
 (KK (.tup [.nils, .nils, (.i .i64 (2 : Int))]) (lsMem 0 [([.int .i64, .int .i64, .int .i64, .int .i64], h), ([.int .i64, .int .i64], c)]) 2 [])
 (cond (decide (v < (1 : Int)))
 (KK (.tup [.nils, .nils, (.i .i64 (2 : Int))]) (lsMem 0 [([.int .i64, .int .i64, .int .i64, .int .i64], h), ([.int .i64, .int .i64], c)]) 2 [])
 ((Ll.len h) = (Ll.len h) ∧ (cond (decide (v > (holeV h)))
 (KK (.tup [.nils, .nils, (.i .i64 (2 : Int))]) (lsMem 0 [([.int .i64, .int .i64, .int .i64, .int .i64], h), ([.int .i64, .int .i64], c)]) 2 [])
 ((Ll.len h) = (Ll.len h) ∧ (InK .i64 ((holeV h) - v) ∧ ((Ll.len c) = (Ll.len c) ∧ ((colE h c) = (0 : Int) ∧ ((0 : Int) = (0 : Int) ∧ ((0 : Int) ≤ ((holeV h) - v) ∧ (((holeV h) - v) ≤ (5242880000 : Int) ∧ ((Ll.len (nowP c w v ((holeV h) - v) c.length)) = (Ll.len (nowP c w v ((holeV h) - v) c.length)) ∧ ((Ll.len (nowP c w v ((holeV h) - v) c.length)) ≤ (1000 : Int) ∧ ((Ll.len (outP c ((holeV h) - v) c.length)) = (Ll.len (outP c ((holeV h) - v) c.length)) ∧ ((Ll.len (outP c ((holeV h) - v) c.length)) ≤ (1000 : Int) ∧ (cond (decide ((Ll.len (plainL (nowP c w v ((holeV h) - v) c.length))) > (24 : Int)))
 (KK (.tup [.nils, .nils, (.i .i64 (8 : Int))]) (lsMem 0 [([.int .i64, .int .i64, .int .i64, .int .i64], h), ([.int .i64, .int .i64], c)]) 2 [])
 ((Ll.len (plainL (nowP c w v ((holeV h) - v) c.length))) = (Ll.len (plainL (nowP c w v ((holeV h) - v) c.length))) ∧ ((Ll.len (plainL (outP c ((holeV h) - v) c.length))) = (Ll.len (plainL (outP c ((holeV h) - v) c.length))) ∧ (KK (.tup [(.ls true 2 (Ll.len (plainL (nowP c w v ((holeV h) - v) c.length)))), (.ls true 3 (Ll.len (plainL (outP c ((holeV h) - v) c.length)))), (.i .i64 (0 : Int))]) (Al.set (Al.set (lsMem 0 [([.int .i64, .int .i64, .int .i64, .int .i64], h), ([.int .i64, .int .i64], c)]) 2 (some (.list 32 [.int .i64, .int .i64] true (plainL (nowP c w v ((holeV h) - v) c.length))))) 3 (some (.list 32 [.int .i64, .int .i64] true (plainL (outP c ((holeV h) - v) c.length))))) 5 []))))))))))))))))))))))) := by kernel_rfl
theorem rpump_gives {m : Nat} (hm : 3100 ≤ m) {H : Hp} {nx : Nat} (w v : Int) {v_h : LV} {h : Ll} (hl_h : IsL H nx [.int .i64, .int .i64, .int .i64, .int .i64] h v_h) {v_c : LV} {c : Ll} (hl_c : IsL H nx [.int .i64, .int .i64] c v_c) : GivesV Try.prog AW m 16 [.agg [v_h], v_c, .agg [.i .i64 w, .i .i64 v]] H nx (.tup [.ls true 0 (Ll.len (pmA h c w v)), .ls true 1 (Ll.len (pmO h c w v)), .i .i64 (pmE h c w v)]) [(32, [.int .i64, .int .i64], true, (pmA h c w v)), (32, [.int .i64, .int .i64], true, (pmO h c w v))] := by
  obtain ⟨ν, n1, n2, n3, n4⟩ := ls_in (fs := fspl) (ov := true) (l := [([.int .i64, .int .i64, .int .i64, .int .i64], h), ([.int .i64, .int .i64], c)]) (lvs := [v_h, v_c]) 0 (fun i x lv e1 e2 => by
    cases i with
    | zero => simp at e1 e2; subst e1 e2; exact hl_h
    | succ i =>
      cases i with
      | zero => simp at e1 e2; subst e1 e2; exact hl_c
      | succ i =>
        simp at e1) rfl
  refine gv_of (n := 20) (d := m - 21) (U := 30) (fs := fspl) (ov := true) (spRpu_ok (by omega)) spRpu_aw (lpRpum_ok (by omega)) (by decide) (by decide) (by omega) (args := [.agg [.ls false 0 (Ll.len h)], .ls false 1 (Ll.len c), .agg [.i .i64 w, .i .i64 v]]) (M := lsMem 0 [([.int .i64, .int .i64, .int .i64, .int .i64], h), ([.int .i64, .int .i64], c)]) (snx := 2) ?_ ?_ (VSL.cons ⟨_, rfl, (VSL.cons (n4 0 _ _ rfl rfl) rfl)⟩ (VSL.cons (n4 1 _ _ rfl rfl) (VSL.cons ⟨_, rfl, (VSL.cons rfl (VSL.cons rfl rfl))⟩ rfl))) (hs_in n2 n3)
  rw [rpump_eq]
  · simp only [cond_iff, cond_not, InK64]
    have hlh : Ll.len h = (h.length : Int) := rfl
    have hlc : Ll.len c = (c.length : Int) := rfl
    have cE : pmE h c w v = if ¬ colE h c = 0 then colE h c else if w < 0 ∨ 40000 < w ∨ v < 1 ∨ volN h h.length < v then 2 else if 24 < (plainL (nowP c w v (volN h h.length - v) c.length)).length then 8 else 0 := rfl
    have cA : pmA h c w v = if pmE h c w v = 0 then plainL (nowP c w v (volN h h.length - v) c.length) else [] := rfl
    have cO : pmO h c w v = if pmE h c w v = 0 then plainL (outP c (volN h h.length - v) c.length) else [] := rfl
    have eNo : ¬ pmE h c w v = 0 → giveV (fs := fspl) (ov := true) 2 (.tup [.ls true 0 (Ll.len (pmA h c w v)), .ls true 1 (Ll.len (pmO h c w v)), .i .i64 (pmE h c w v)]) [(32, [.int .i64, .int .i64], true, pmA h c w v), (32, [.int .i64, .int .i64], true, pmO h c w v)] (.tup [.nils, .nils, .i .i64 (pmE h c w v)]) (lsMem 0 [([.int .i64, .int .i64, .int .i64, .int .i64], h), ([.int .i64, .int .i64], c)]) 2 [] := fun hz => by
      rw [cA, cO, if_neg hz, if_neg hz]
      end_gv [none, none]
    by_cases h0 : colE h c = 0
    · have e := col_of h0
      have p0 := e.hole
      have hlen := e.len
      have hz := hole_zero p0
      have eV : holeV h = volN h h.length := by unfold holeV; rw [if_pos hz]
      have hb := p0.b (n := h.length) (Nat.le_refl _)
      rw [if_neg (fun hc => hc h0)] at cE
      rw [eV]
      have eL : Ll.len (nowP c w v (volN h h.length - v) c.length) ≤ 1000 := by
        show ((List.length _ : Nat) : Int) ≤ 1000
        rw [nowP_len]; omega
      have eO : Ll.len (outP c (volN h h.length - v) c.length) ≤ 1000 := by
        show ((List.length _ : Nat) : Int) ≤ 1000
        rw [outP_len]; omega
      by_cases hr : w < 0 ∨ 40000 < w ∨ v < 1 ∨ volN h h.length < v
      · rw [if_pos hr] at cE
        have eN := eNo (by rw [cE]; decide)
        rw [cE] at eN ⊢
        repeat' (first | exact eN | apply And.intro | intro _)
        all_goals first | omega | exact True.intro | (exfalso; omega)
      · rw [if_neg hr] at cE
        have hlp : Ll.len (plainL (nowP c w v (volN h h.length - v) c.length)) = ((plainL (nowP c w v (volN h h.length - v) c.length)).length : Int) := rfl
        by_cases hf : 24 < (plainL (nowP c w v (volN h h.length - v) c.length)).length
        · rw [if_pos hf] at cE
          have eN := eNo (by rw [cE]; decide)
          rw [cE] at eN ⊢
          repeat' (first | exact eN | exact eL | exact eO | apply And.intro | intro _)
          all_goals first | omega | exact True.intro | (exfalso; omega)
        · rw [if_neg hf] at cE
          rw [if_pos cE] at cA cO
          rw [cE, cA, cO]
          generalize plainL (nowP c w v (volN h h.length - v) c.length) = X at *
          generalize plainL (outP c (volN h h.length - v) c.length) = Y at *
          repeat' (first | exact eL | exact eO | end_gv [some 2, some 3] | apply And.intro | intro _)
          all_goals first | omega | exact True.intro | (exfalso; omega)
    · rw [if_pos h0] at cE
      have eN := eNo (by rw [cE]; exact h0)
      rw [cE] at eN ⊢
      repeat' (first | exact eN | apply And.intro | intro _)
      all_goals first | omega | exact True.intro | (exfalso; omega)
  · intro o ho
    simp only [List.mem_cons, List.not_mem_nil, or_false] at ho
    rcases ho with rfl | rfl
    · exact pmA_rows h c w v
    · exact pmO_rows h c w v
abbrev rpumpS {A : Go.Rx.Alg} : List (Go.Rx.SV A) → Go.Rx.SH A → Nat → Go.Rx.KS A → A.R := fun args_ M_ snx_ K_ => match args_ with
  | [.agg [x_h], x_c, .agg [.i .i64 w, .i .i64 v]] => (match Go.Rx.lsArg M_ [.int .i64, .int .i64, .int .i64, .int .i64] x_h with | some (h, n_h) => (A.need .eql n_h (A.len h) (match Go.Rx.lsArg M_ [.int .i64, .int .i64] x_c with | some (c, n_c) => (A.need .eql n_c (A.len c) ((M_.set (snx_) (some (.list 32 [.int .i64, .int .i64] true (A.appL 53 [h, c] [w, v])))).force fun M_ => ((M_.set (snx_ + 1) (some (.list 32 [.int .i64, .int .i64] true (A.appL 54 [h, c] [w, v])))).force fun M_ => (K_ (.tup [.ls true (snx_ + 0) (A.len (A.appL 53 [h, c] [w, v])), .ls true (snx_ + 1) (A.len (A.appL 54 [h, c] [w, v])), .i .i64 (A.app 6 [h, c] [w, v])]) M_ (snx_ + 2 + 1) [])))) | none => A.fail "rpump")) | none => A.fail "rpump")
  | _ => A.fail "rpump"
theorem rpumpS_ok {ov : Bool} {d : Nat} (hd : 3100 ≤ d) : SpecOK (fs := fspl) (ov := ov) Try.prog AW d 16 rpumpS := by
  intro m_ hm_ args_ M_ snx_ K_ h_ ν_ largs_ H_ nx_ ha_ hM_
  unfold rpumpS at h_
  split at h_
  · rename_i x_h x_c w v
    obtain ⟨y1, r1, rfl, ⟨l1, rfl, ⟨v_h, r2, rfl, hx_h, rfl⟩⟩, ⟨v_c, r3, rfl, hx_c, ⟨y4, r4, rfl, ⟨l4, rfl, ⟨y5, r5, rfl, rfl, ⟨y6, r6, rfl, rfl, rfl⟩⟩⟩, rfl⟩⟩⟩ := ha_
    split at h_
    · rename_i h n_h q_h
      obtain ⟨e_h, h_⟩ := h_
      split at h_
      · rename_i c n_c q_c
        obtain ⟨e_c, h_⟩ := h_
        exact gv_got (rpump_gives (by omega) w v (lsArg_ok hM_ hx_h q_h e_h) (lsArg_ok hM_ hx_c q_c e_c)) hM_ h_
      · exact h_.elim
    · exact h_.elim
  · exact h_.elim
end Go.Proofs.Ytfjilbjofaommaa
