/-
  Layer 3: holes, their volumes, heights and places.
-/
import Derived.Test.YtfjilbjofaommaaMb
import Derived.Test.YtfjilbjofaommaaBm
set_option linter.unusedSimpArgs false
set_option linter.unusedVariables false
set_option maxRecDepth 100000
namespace Go.Proofs.Ytfjilbjofaommaa
open Go Go.Rx

noncomputable abbrev fsh : Fs where
  i := fun n ls xs => match n, ls, xs with | 1, [l], [] => holeE l | 2, [l], [] => holeV l | 3, [l], [u] => whereI l u | 4, [l], [] => bI l | 5, [l], [] => sumN l l.length | 6, [l], [] => 1048576 - sumN l l.length | 7, [l], [] => minN l l.length | 8, [l], [] => volN l l.length | 9, [l], [] => volN l (l.length - 1) | 10, [l], [] => risN l l.length | 11, [l], [u] => whI l u | 12, [l], [u] => whN l u | 13, [a, b], [] => dfL a b | 14, [l], [u] => volN l ((whN l u).toNat + 1) | _, _, _ => 0
  b := fun n ls xs => match n, ls, xs with | 30, [a, b], [] => sameL2 a b | 31, [a, b], [] => decide (dfL a b < (min a.length b.length : Nat)) | _, _, _ => false
  l := fun n ls xs => match n, ls, xs with | 50, [l], [] => hgtL l | 51, [l], [] => hgtP l l.length | _, _, _ => []
  rng := rngAt Try.prog
theorem ca_eq (i : Int) (l : Ll) (T : Al (SV (stdA fsh true))) (M : Al (SO (stdA fsh true))) (KK : Ex → List (SV (stdA fsh true)) → List (SO (stdA fsh true)) → List Ll → Prop) : sCode Try.prog (sCall Try.prog 30 (spOf sp0) noLoop 20) ⟨38, false, noLoop 38⟩ 30 (false :: [false, true, false, true, true, true]) (bodyAt Try.prog 38 [false, true, false, true, true, true]) (hdL (bodyAt Try.prog 38 [false, true, false, true, true, true]) T M 75 2 [(17, .ls false 0 (Ll.len l)), (18, .i .i64 (Ll.len l))] [(0, .list 0 [.int .i64, .int .i64, .int .i64, .int .i64] false l)] [(19, .i .i64 i)] [] [] [] []) (outL 2 (tsOf [19] [2]) [] [] [] KK) =
  (cond (decide (i < (Ll.len l)))
 ((0 : Int) ≤ i ∧ (i < (Ll.len l) ∧ (i < (Ll.len l) ∧ (cond (decide ((Ll.get l i 0) < (1 : Int)))
 (KK .ret [(.i .i64 (2 : Int))] [] [])
 (cond (decide ((Ll.get l i 1) < (0 : Int)))
 (KK .ret [(.i .i64 (2 : Int))] [] [])
 (cond (decide ((Ll.get l i 1) > (Ll.get l i 0)))
 (KK .ret [(.i .i64 (2 : Int))] [] [])
 (cond (decide ((Ll.get l i 2) < (1 : Int)))
 (KK .ret [(.i .i64 (2 : Int))] [] [])
 (cond (decide ((Ll.get l i 2) > (5000 : Int)))
 (KK .ret [(.i .i64 (2 : Int))] [] [])
 (cond (decide ((Ll.get l i 3) < (1 : Int)))
 (KK .ret [(.i .i64 (2 : Int))] [] [])
 (cond (decide ((Ll.get l i 3) > (200 : Int)))
 (KK .ret [(.i .i64 (2 : Int))] [] [])
 (InK .i64 (i + (1 : Int)) ∧ (KK .normal [(.i .i64 (i + (1 : Int)))] [] []))))))))))))
 (KK (.exit 0) [(.i .i64 i)] [] [])) := by kernel_rfl
theorem ca_go (l : Ll) (i : Int) (i_0 : Int) (r1 : i_0 = (0 : Int)) (T : Al (SV (stdA fsh true))) (M : Al (SO (stdA fsh true))) (KK : Ex → List (SV (stdA fsh true)) → List (SO (stdA fsh true)) → List Ll → Prop) (p1 : (Ll.len l) ≤ (16 : Int)) (hI : 0 ≤ i ∧ i ≤ bI l) (hn : ∀ (i' : Int), 0 ≤ i' ∧ i' ≤ bI l → (20 - i').toNat < (20 - i).toNat → KK .normal [.i .i64 i'] [] []) (hx1 : (bI l) < (Ll.len l) → KK .ret [.i .i64 (2 : Int)] [] []) (hx2 : ¬ ((bI l) < (Ll.len l)) → KK (.exit 0) [.i .i64 (Ll.len l)] [] []) :
    sCode Try.prog (sCall Try.prog 30 (spOf sp0) noLoop 20) ⟨38, false, noLoop 38⟩ 30 (false :: [false, true, false, true, true, true]) (bodyAt Try.prog 38 [false, true, false, true, true, true]) (hdL (bodyAt Try.prog 38 [false, true, false, true, true, true]) T M 75 2 [(17, .ls false 0 (Ll.len l)), (18, .i .i64 (Ll.len l))] [(0, .list 0 [.int .i64, .int .i64, .int .i64, .int .i64] false l)] [(19, .i .i64 i)] [] [] [] []) (outL 2 (tsOf [19] [2]) [] [] [] KK) := by
  refine Eq.mpr (ca_eq i l T M KK) ?_
  obtain ⟨i0, i1⟩ := hI
  simp only [cond_iff, InK64]
  have hl : Ll.len l = (l.length : Int) := rfl
  obtain ⟨b0, b1, b2⟩ := bI_spec l
  have N : i < Ll.len l → sBad l i = false → i + 1 ≤ leastN (sBad l) l.length 0 → KK .normal [.i .i64 (i + 1)] [] [] := fun h hb h2 => hn (i + 1) ⟨by omega, h2⟩ (by omega)
  have X : ¬ i < Ll.len l → KK (.exit 0) [.i .i64 i] [] [] := fun h => by
    obtain rfl : i = l.length := by omega
    exact hx2 (show ¬ (bI l < Ll.len l) by omega)
  by_cases h : i < Ll.len l
  · have hs := leastN_step (p := sBad l) (k := l.length) i0 i1 (by omega)
    have R : sBad l i = true → KK .ret [.i .i64 (2 : Int)] [] [] := fun h2 => hx1 (by have : bI l = i := hs.1 h2; show bI l < Ll.len l; omega)
    have hN := N h
    repeat' (first | apply And.intro | intro _)
    all_goals first
      | trivial
      | omega
      | (refine R ?_; unfold sBad; rw [decide_eq_true_iff]; omega)
      | (have hb : sBad l i = false := (by unfold sBad; rw [decide_eq_false_iff_not]; omega)
         have h3 := hN hb (hs.2 hb)
         first | exact h3 | exact h3.1 | exact h3.2.1 | exact h3.2.2)
  · repeat' (first | apply And.intro | intro _)
    all_goals first
      | trivial
      | omega
      | exact X (by omega)
abbrev caF {A : Go.Rx.Alg} : Code → Go.Rx.SS A → (Go.Rx.Ex → Go.Rx.SS A → A.R) → A.R := fun c_ s_ K_ => match s_.T.get 17, s_.T.get 18, s_.H.get 0, s_.T.get 19 with
  | some (.ls false 0 m1), some (.i .i64 m2), some (.list t3 k3 false l), some (.i .i64 i) => bif (((Nat.beq s_.N 75 && Nat.beq s_.nx 2) && Nat.beq t3 0) && decide (k3 = [.int .i64, .int .i64, .int .i64, .int .i64])) then (A.need .eql m1 (A.len l) (A.need .eql m2 (A.len l) (A.need .eql i (A.lit 0) (A.need .leq (A.len l) (A.lit 16) ((A.br (A.cmp .lss (A.app 4 [l] []) (A.len l)) (fun _ => K_ .ret (Go.Rx.hdL c_ s_.T (Go.Rx.kills [] s_.H) 75 2 [(17, .ls false 0 (A.len l)), (18, .i .i64 (A.len l))] [(0, .list 0 [.int .i64, .int .i64, .int .i64, .int .i64] false l)] [(2, .i .i64 (A.lit 2))] [] [] [] (Go.Rx.addW ([] ++ []) s_.wr))) (fun _ => K_ (.exit 0) (Go.Rx.hdL c_ s_.T (Go.Rx.kills [] s_.H) 75 2 [(17, .ls false 0 (A.len l)), (18, .i .i64 (A.len l))] [(0, .list 0 [.int .i64, .int .i64, .int .i64, .int .i64] false l)] [(19, .i .i64 (A.len l))] [] [] [] (Go.Rx.addW ([] ++ []) s_.wr))))))))) else A.fail "frame of ca"
  | _, _, _, _ => A.fail "ca"
theorem caF_ok {d : Nat} (hd : 100 ≤ d) : LoopOK (fs := fsh) (ov := true) Try.prog AW d 38 [false, true, false, true, true, true] false caF := by
  intro m_ hm_ fn_ c0_ hfn_ hb_ c_ ro_ hro_ hc_ s_ K_ W_ ν_ S_ h_ hs_
  obtain rfl := body_of hfn_ hb_ hc_
  unfold caF at h_
  split at h_
  · rename_i m1_0 m2_0 t3 k3 l_0 i_0_0 g0 g1 g2 g3
    obtain ⟨m1, rfl⟩ : ∃ q : Int, q = m1_0 := ⟨m1_0, rfl⟩
    obtain ⟨m2, rfl⟩ : ∃ q : Int, q = m2_0 := ⟨m2_0, rfl⟩
    obtain ⟨l, rfl⟩ : ∃ q : Ll, q = l_0 := ⟨l_0, rfl⟩
    obtain ⟨i_0, rfl⟩ : ∃ q : Int, q = i_0_0 := ⟨i_0_0, rfl⟩
    obtain ⟨T_, FN_, M_, snx_, wr_⟩ := s_
    have hN : (((Nat.beq FN_ 75 && Nat.beq snx_ 2) && Nat.beq t3 0) && decide (k3 = [.int .i64, .int .i64, .int .i64, .int .i64])) = true := by
      cases hq : ((((Nat.beq FN_ 75 && Nat.beq snx_ 2) && Nat.beq t3 0) && decide (k3 = [.int .i64, .int .i64, .int .i64, .int .i64])) : Bool) with
      | true => rfl
      | false => (rw [hq] at h_; exact h_.elim)
    rw [hN, cond_true] at h_
    simp only [Bool.and_eq_true, beq_iff, decide_eq_true_eq] at hN
    obtain ⟨⟨⟨rfl, rfl⟩, rfl⟩, rfl⟩ := hN
    obtain ⟨q0, h_⟩ := h_
    obtain rfl : m1 = (Ll.len l) := q0
    obtain ⟨q0, h_⟩ := h_
    obtain rfl : m2 = (Ll.len l) := q0
    obtain ⟨q1, h_⟩ := h_
    have q1 : i_0 = (0 : Int) := q1
    obtain ⟨q2, h_⟩ := h_
    have q2 : (Ll.len l) ≤ (16 : Int) := q2
    replace h_ : cond (decide ((bI l) < (Ll.len l))) (K_ .ret (hdL (bodyAt Try.prog 38 [false, true, false, true, true, true]) T_ (kills [] M_) 75 2 [(17, .ls false 0 (Ll.len l)), (18, .i .i64 (Ll.len l))] [(0, .list 0 [.int .i64, .int .i64, .int .i64, .int .i64] false l)] [(2, .i .i64 (2 : Int))] [] [] [] (addW ([] ++ []) wr_))) (K_ (.exit 0) (hdL (bodyAt Try.prog 38 [false, true, false, true, true, true]) T_ (kills [] M_) 75 2 [(17, .ls false 0 (Ll.len l)), (18, .i .i64 (Ll.len l))] [(0, .list 0 [.int .i64, .int .i64, .int .i64, .int .i64] false l)] [(19, .i .i64 (Ll.len l))] [] [] [] (addW ([] ++ []) wr_))) := h_
    have hx1 : (bI l) < (Ll.len l) → K_ .ret (hdL (bodyAt Try.prog 38 [false, true, false, true, true, true]) T_ (kills [] M_) 75 2 [(17, .ls false 0 (Ll.len l)), (18, .i .i64 (Ll.len l))] [(0, .list 0 [.int .i64, .int .i64, .int .i64, .int .i64] false l)] [(2, .i .i64 (2 : Int))] [] [] [] (addW ([] ++ []) wr_)) := fun e1 => by
      have h2 := h_
      rw [decide_eq_true e1] at h2; simp only [cond_true, cond_false] at h2; exact h2
    have hx2 : ¬ ((bI l) < (Ll.len l)) → K_ (.exit 0) (hdL (bodyAt Try.prog 38 [false, true, false, true, true, true]) T_ (kills [] M_) 75 2 [(17, .ls false 0 (Ll.len l)), (18, .i .i64 (Ll.len l))] [(0, .list 0 [.int .i64, .int .i64, .int .i64, .int .i64] false l)] [(19, .i .i64 (Ll.len l))] [] [] [] (addW ([] ++ []) wr_)) := fun e1 => by
      have h2 := h_
      rw [decide_eq_false e1] at h2; simp only [cond_true, cond_false] at h2; exact h2
    refine loop_ruleL (fs := fsh) (ov := true) (s := ⟨T_, 75, M_, 2, wr_⟩) (X := Int) (B := []) (mv := []) (kt := [(17, .ls false 0 (Ll.len l)), (18, .i .i64 (Ll.len l))]) (kr := [(0, .list 0 [.int .i64, .int .i64, .int .i64, .int .i64] false l)]) (ty := []) (x := (i_0))
      (Inv := (fun x_ : Int => match x_ with | (i) => 0 ≤ i ∧ i ≤ bI l)) (μ := (fun x_ : Int => match x_ with | (i) => (20 - i).toNat)) (ts := tsOf [19] [2]) (sl := (fun x_ : Int => match x_ with | (i) => [.i .i64 i])) (bl := (fun x_ : Int => match x_ with | (i) => [])) (ll := (fun x_ : Int => match x_ with | (i) => [])) (Q := fun e_ vs_ os_ hs_ => K_ e_ (hdL (bodyAt Try.prog 38 [false, true, false, true, true, true]) T_ (kills [] M_) 75 2 [(17, .ls false 0 (Ll.len l)), (18, .i .i64 (Ll.len l))] [(0, .list 0 [.int .i64, .int .i64, .int .i64, .int .i64] false l)] (((tsOf [19] [2]) e_).zip vs_) ([].zip os_) [] hs_ (addW ([] ++ []) wr_)))
      (L := LL) (U := 30) (cs := sCall Try.prog 30 (spOf sp0) noLoop 20) (call := CN Try.prog AW m_) (lp := ⟨38, false, noLoop 38⟩) (root := c0_) (p := [false, true, false, true, true, true])
      (show CallSOK _ _ from by
        have := sCall_ok (P := Try.prog) (d := m_ - 20) (U := 30) (lp := noLoop) (sp0_ok (fs := fsh) (ov := true) (d := m_ - 20)) (sp0_aw (fs := fsh) (ov := true)) (noLoop_ok) (by decide) rfl 20
        rwa [show 20 + (m_ - 20) = m_ by omega] at this) (ctx_of (g := 38) (rg := false) (at_ := noLoop 38) (fun p rg f h => by cases h) hfn_ hb_ hro_) (by decide) hc_
      (fun x o ho => by cases ho)
      (fun x hx => by cases hx) (fun x hx => by cases hx) (fun x hx => by cases hx)
      (fun x hx => by
        simp only [List.mem_cons, List.not_mem_nil, or_false] at hx
        rcases hx with rfl | rfl
        · exact g0
        · exact g1) (fun x hx => by
        simp only [List.mem_cons, List.not_mem_nil, or_false] at hx
        rcases hx with rfl
        · exact ⟨g2, by simp⟩) ?_ (fun _ _ _ _ _ h => h) ?_ ?_ ?_ hs_
    · rintro i hI
      exact ca_go l i i_0 q1 T_ (kills [] M_) _ q2 hI (fun i' ha hb => ⟨(i'), ha, hb, rfl, rfl, rfl⟩) (fun e1 => ⟨by simp [SO.mine], hx1 e1⟩) (fun e1 => ⟨by simp [SO.mine], hx2 e1⟩)
    · show 0 ≤ i_0 ∧ i_0 ≤ bI l
      exact ⟨by omega, by have := (bI_spec l).1; omega⟩
    · show (20 - i_0).toNat < LL
      exact Nat.lt_of_le_of_lt (show _ ≤ 1000 by omega) (by decide)
    · exact ⟨⟨[.i .i64 i_0], [], [], [], by simp [gets, tsOf, g0, g1, g2, g3], by simp [gets, g0, g1, g2, g3], rfl, rfl, by simp [listsOf] <;> rfl⟩⟩
  · exact h_.elim
theorem cb_eq (i r : Int) (l : Ll) (T : Al (SV (stdA fsh true))) (M : Al (SO (stdA fsh true))) (KK : Ex → List (SV (stdA fsh true)) → List (SO (stdA fsh true)) → List Ll → Prop) : sCode Try.prog (sCall Try.prog 30 (spOf sp0) noLoop 20) ⟨38, false, noLoop 38⟩ 30 (false :: [false, true, false, true, true, true, true, true]) (bodyAt Try.prog 38 [false, true, false, true, true, true, true, true]) (hdL (bodyAt Try.prog 38 [false, true, false, true, true, true, true, true]) T M 75 2 [(60, .ls false 0 (Ll.len l)), (61, .i .i64 (Ll.len l))] [(0, .list 0 [.int .i64, .int .i64, .int .i64, .int .i64] false l)] [(5, .i .i64 r), (62, .i .i64 i)] [] [] [] []) (outL 2 (tsOf [5, 62] [2]) [] [] [] KK) =
  (cond (decide (i < (Ll.len l)))
 ((0 : Int) ≤ i ∧ (i < (Ll.len l) ∧ (i < (Ll.len l) ∧ (cond (decide ((Ll.get l i 0) > r))
 (KK .ret [(.i .i64 (5 : Int))] [] [])
 (InK .i64 (r - (Ll.get l i 0)) ∧ (InK .i64 (i + (1 : Int)) ∧ (KK .normal [(.i .i64 (r - (Ll.get l i 0))), (.i .i64 (i + (1 : Int)))] [] [])))))))
 (KK (.exit 2) [(.i .i64 r), (.i .i64 i)] [] [])) := by kernel_rfl
theorem cb_go (l : Ll) (i : Int) (r : Int) (i_0 : Int) (r_0 : Int) (r1 : i_0 = (0 : Int)) (r2 : r_0 = (1048576 : Int)) (T : Al (SV (stdA fsh true))) (M : Al (SO (stdA fsh true))) (KK : Ex → List (SV (stdA fsh true)) → List (SO (stdA fsh true)) → List Ll → Prop) (p1 : (Ll.len l) ≤ (16 : Int)) (p2 : (Ll.len l) ≤ (bI l)) (hI : 0 ≤ i ∧ i ≤ l.length ∧ r = 1048576 - sumN l i.toNat ∧ 0 ≤ r) (hn : ∀ (i' : Int) (r' : Int), 0 ≤ i' ∧ i' ≤ l.length ∧ r' = 1048576 - sumN l i'.toNat ∧ 0 ≤ r' → (20 - i').toNat < (20 - i).toNat → KK .normal [.i .i64 r', .i .i64 i'] [] []) (hx1 : (1048576 : Int) < (sumN l l.length) → KK .ret [.i .i64 (5 : Int)] [] []) (hx2 : ¬ ((1048576 : Int) < (sumN l l.length)) → KK (.exit 2) [.i .i64 (1048576 - sumN l l.length), .i .i64 (Ll.len l)] [] []) :
    sCode Try.prog (sCall Try.prog 30 (spOf sp0) noLoop 20) ⟨38, false, noLoop 38⟩ 30 (false :: [false, true, false, true, true, true, true, true]) (bodyAt Try.prog 38 [false, true, false, true, true, true, true, true]) (hdL (bodyAt Try.prog 38 [false, true, false, true, true, true, true, true]) T M 75 2 [(60, .ls false 0 (Ll.len l)), (61, .i .i64 (Ll.len l))] [(0, .list 0 [.int .i64, .int .i64, .int .i64, .int .i64] false l)] [(5, .i .i64 r), (62, .i .i64 i)] [] [] [] []) (outL 2 (tsOf [5, 62] [2]) [] [] [] KK) := by
  refine Eq.mpr (cb_eq i r l T M KK) ?_
  simp only [cond_iff, InK64]
  have hl : Ll.len l = (l.length : Int) := rfl
  have p2 : Ll.len l ≤ bI l := p2
  obtain ⟨i0, i1, rfl, i3⟩ := hI
  have hg : GoodN l l.length := good_of (by omega)
  by_cases h : i < Ll.len l
  · obtain ⟨c1, c2, c3, c4, c5, c6, c7⟩ := sBad_no (hg i.toNat (by omega))
    rw [Int.toNat_of_nonneg i0] at c1 c2 c3 c4 c5 c6 c7
    have e := sumN_succ (l := l) i0
    have h3 := (sumN_mono hg (k := i.toNat + 1) (by omega)).1
    have h4 := (sumN_b (fun j hj => hg j (by omega) : GoodN l i.toNat)).1
    have N : ¬ Ll.get l i 0 > 1048576 - sumN l i.toNat → KK .normal [.i .i64 (1048576 - sumN l i.toNat - Ll.get l i 0), .i .i64 (i + 1)] [] [] := fun hb => hn (i + 1) (1048576 - sumN l i.toNat - Ll.get l i 0) ⟨by omega, by omega, by rw [show (i + 1).toNat = i.toNat + 1 by omega, e]; omega, by omega⟩ (by omega)
    repeat' (first | apply And.intro | intro _)
    all_goals first
      | trivial
      | omega
      | (refine hx1 (show 1048576 < sumN l l.length from ?_); omega)
      | exact N (by assumption)
  · obtain rfl : i = l.length := by omega
    rw [Int.toNat_natCast] at *
    repeat' (first | apply And.intro | intro _)
    all_goals first
      | trivial
      | omega
      | (refine hx2 (show ¬ (1048576 < sumN l l.length) from ?_); omega)
abbrev cbF {A : Go.Rx.Alg} : Code → Go.Rx.SS A → (Go.Rx.Ex → Go.Rx.SS A → A.R) → A.R := fun c_ s_ K_ => match s_.T.get 60, s_.T.get 61, s_.H.get 0, s_.T.get 5, s_.T.get 62 with
  | some (.ls false 0 m1), some (.i .i64 m2), some (.list t3 k3 false l), some (.i .i64 r), some (.i .i64 i) => bif (((Nat.beq s_.N 75 && Nat.beq s_.nx 2) && Nat.beq t3 0) && decide (k3 = [.int .i64, .int .i64, .int .i64, .int .i64])) then (A.need .eql m1 (A.len l) (A.need .eql m2 (A.len l) (A.need .eql i (A.lit 0) (A.need .eql r (A.lit 1048576) (A.need .leq (A.len l) (A.lit 16) (A.need .leq (A.len l) (A.app 4 [l] []) ((A.br (A.cmp .lss (A.lit 1048576) (A.app 5 [l] [])) (fun _ => K_ .ret (Go.Rx.hdL c_ s_.T (Go.Rx.kills [] s_.H) 75 2 [(60, .ls false 0 (A.len l)), (61, .i .i64 (A.len l))] [(0, .list 0 [.int .i64, .int .i64, .int .i64, .int .i64] false l)] [(2, .i .i64 (A.lit 5))] [] [] [] (Go.Rx.addW ([] ++ []) s_.wr))) (fun _ => K_ (.exit 2) (Go.Rx.hdL c_ s_.T (Go.Rx.kills [] s_.H) 75 2 [(60, .ls false 0 (A.len l)), (61, .i .i64 (A.len l))] [(0, .list 0 [.int .i64, .int .i64, .int .i64, .int .i64] false l)] [(5, .i .i64 (A.app 6 [l] [])), (62, .i .i64 (A.len l))] [] [] [] (Go.Rx.addW ([] ++ []) s_.wr))))))))))) else A.fail "frame of cb"
  | _, _, _, _, _ => A.fail "cb"
theorem cbF_ok {d : Nat} (hd : 100 ≤ d) : LoopOK (fs := fsh) (ov := true) Try.prog AW d 38 [false, true, false, true, true, true, true, true] false cbF := by
  intro m_ hm_ fn_ c0_ hfn_ hb_ c_ ro_ hro_ hc_ s_ K_ W_ ν_ S_ h_ hs_
  obtain rfl := body_of hfn_ hb_ hc_
  unfold cbF at h_
  split at h_
  · rename_i m1_0 m2_0 t3 k3 l_0 r_0_0 i_0_0 g0 g1 g2 g3 g4
    obtain ⟨m1, rfl⟩ : ∃ q : Int, q = m1_0 := ⟨m1_0, rfl⟩
    obtain ⟨m2, rfl⟩ : ∃ q : Int, q = m2_0 := ⟨m2_0, rfl⟩
    obtain ⟨l, rfl⟩ : ∃ q : Ll, q = l_0 := ⟨l_0, rfl⟩
    obtain ⟨r_0, rfl⟩ : ∃ q : Int, q = r_0_0 := ⟨r_0_0, rfl⟩
    obtain ⟨i_0, rfl⟩ : ∃ q : Int, q = i_0_0 := ⟨i_0_0, rfl⟩
    obtain ⟨T_, FN_, M_, snx_, wr_⟩ := s_
    have hN : (((Nat.beq FN_ 75 && Nat.beq snx_ 2) && Nat.beq t3 0) && decide (k3 = [.int .i64, .int .i64, .int .i64, .int .i64])) = true := by
      cases hq : ((((Nat.beq FN_ 75 && Nat.beq snx_ 2) && Nat.beq t3 0) && decide (k3 = [.int .i64, .int .i64, .int .i64, .int .i64])) : Bool) with
      | true => rfl
      | false => (rw [hq] at h_; exact h_.elim)
    rw [hN, cond_true] at h_
    simp only [Bool.and_eq_true, beq_iff, decide_eq_true_eq] at hN
    obtain ⟨⟨⟨rfl, rfl⟩, rfl⟩, rfl⟩ := hN
    obtain ⟨q0, h_⟩ := h_
    obtain rfl : m1 = (Ll.len l) := q0
    obtain ⟨q0, h_⟩ := h_
    obtain rfl : m2 = (Ll.len l) := q0
    obtain ⟨q1, h_⟩ := h_
    have q1 : i_0 = (0 : Int) := q1
    obtain ⟨q2, h_⟩ := h_
    have q2 : r_0 = (1048576 : Int) := q2
    obtain ⟨q3, h_⟩ := h_
    have q3 : (Ll.len l) ≤ (16 : Int) := q3
    obtain ⟨q4, h_⟩ := h_
    have q4 : (Ll.len l) ≤ (bI l) := q4
    replace h_ : cond (decide ((1048576 : Int) < (sumN l l.length))) (K_ .ret (hdL (bodyAt Try.prog 38 [false, true, false, true, true, true, true, true]) T_ (kills [] M_) 75 2 [(60, .ls false 0 (Ll.len l)), (61, .i .i64 (Ll.len l))] [(0, .list 0 [.int .i64, .int .i64, .int .i64, .int .i64] false l)] [(2, .i .i64 (5 : Int))] [] [] [] (addW ([] ++ []) wr_))) (K_ (.exit 2) (hdL (bodyAt Try.prog 38 [false, true, false, true, true, true, true, true]) T_ (kills [] M_) 75 2 [(60, .ls false 0 (Ll.len l)), (61, .i .i64 (Ll.len l))] [(0, .list 0 [.int .i64, .int .i64, .int .i64, .int .i64] false l)] [(5, .i .i64 (1048576 - sumN l l.length)), (62, .i .i64 (Ll.len l))] [] [] [] (addW ([] ++ []) wr_))) := h_
    have hx1 : (1048576 : Int) < (sumN l l.length) → K_ .ret (hdL (bodyAt Try.prog 38 [false, true, false, true, true, true, true, true]) T_ (kills [] M_) 75 2 [(60, .ls false 0 (Ll.len l)), (61, .i .i64 (Ll.len l))] [(0, .list 0 [.int .i64, .int .i64, .int .i64, .int .i64] false l)] [(2, .i .i64 (5 : Int))] [] [] [] (addW ([] ++ []) wr_)) := fun e1 => by
      have h2 := h_
      rw [decide_eq_true e1] at h2; simp only [cond_true, cond_false] at h2; exact h2
    have hx2 : ¬ ((1048576 : Int) < (sumN l l.length)) → K_ (.exit 2) (hdL (bodyAt Try.prog 38 [false, true, false, true, true, true, true, true]) T_ (kills [] M_) 75 2 [(60, .ls false 0 (Ll.len l)), (61, .i .i64 (Ll.len l))] [(0, .list 0 [.int .i64, .int .i64, .int .i64, .int .i64] false l)] [(5, .i .i64 (1048576 - sumN l l.length)), (62, .i .i64 (Ll.len l))] [] [] [] (addW ([] ++ []) wr_)) := fun e1 => by
      have h2 := h_
      rw [decide_eq_false e1] at h2; simp only [cond_true, cond_false] at h2; exact h2
    refine loop_ruleL (fs := fsh) (ov := true) (s := ⟨T_, 75, M_, 2, wr_⟩) (X := Int × Int) (B := []) (mv := []) (kt := [(60, .ls false 0 (Ll.len l)), (61, .i .i64 (Ll.len l))]) (kr := [(0, .list 0 [.int .i64, .int .i64, .int .i64, .int .i64] false l)]) (ty := []) (x := (i_0, r_0))
      (Inv := (fun x_ : Int × Int => match x_ with | (i, r) => 0 ≤ i ∧ i ≤ l.length ∧ r = 1048576 - sumN l i.toNat ∧ 0 ≤ r)) (μ := (fun x_ : Int × Int => match x_ with | (i, r) => (20 - i).toNat)) (ts := tsOf [5, 62] [2]) (sl := (fun x_ : Int × Int => match x_ with | (i, r) => [.i .i64 r, .i .i64 i])) (bl := (fun x_ : Int × Int => match x_ with | (i, r) => [])) (ll := (fun x_ : Int × Int => match x_ with | (i, r) => [])) (Q := fun e_ vs_ os_ hs_ => K_ e_ (hdL (bodyAt Try.prog 38 [false, true, false, true, true, true, true, true]) T_ (kills [] M_) 75 2 [(60, .ls false 0 (Ll.len l)), (61, .i .i64 (Ll.len l))] [(0, .list 0 [.int .i64, .int .i64, .int .i64, .int .i64] false l)] (((tsOf [5, 62] [2]) e_).zip vs_) ([].zip os_) [] hs_ (addW ([] ++ []) wr_)))
      (L := LL) (U := 30) (cs := sCall Try.prog 30 (spOf sp0) noLoop 20) (call := CN Try.prog AW m_) (lp := ⟨38, false, noLoop 38⟩) (root := c0_) (p := [false, true, false, true, true, true, true, true])
      (show CallSOK _ _ from by
        have := sCall_ok (P := Try.prog) (d := m_ - 20) (U := 30) (lp := noLoop) (sp0_ok (fs := fsh) (ov := true) (d := m_ - 20)) (sp0_aw (fs := fsh) (ov := true)) (noLoop_ok) (by decide) rfl 20
        rwa [show 20 + (m_ - 20) = m_ by omega] at this) (ctx_of (g := 38) (rg := false) (at_ := noLoop 38) (fun p rg f h => by cases h) hfn_ hb_ hro_) (by decide) hc_
      (fun x o ho => by cases ho)
      (fun x hx => by cases hx) (fun x hx => by cases hx) (fun x hx => by cases hx)
      (fun x hx => by
        simp only [List.mem_cons, List.not_mem_nil, or_false] at hx
        rcases hx with rfl | rfl
        · exact g0
        · exact g1) (fun x hx => by
        simp only [List.mem_cons, List.not_mem_nil, or_false] at hx
        rcases hx with rfl
        · exact ⟨g2, by simp⟩) ?_ (fun _ _ _ _ _ h => h) ?_ ?_ ?_ hs_
    · rintro ⟨i, r⟩ hI
      exact cb_go l i r i_0 r_0 q1 q2 T_ (kills [] M_) _ q3 q4 hI (fun i' r' ha hb => ⟨(i', r'), ha, hb, rfl, rfl, rfl⟩) (fun e1 => ⟨by simp [SO.mine], hx1 e1⟩) (fun e1 => ⟨by simp [SO.mine], hx2 e1⟩)
    · show 0 ≤ i_0 ∧ i_0 ≤ l.length ∧ r_0 = 1048576 - sumN l i_0.toNat ∧ 0 ≤ r_0
      exact ⟨by omega, by omega, by rw [q2, q1]; simp [sumN], by omega⟩
    · show (20 - i_0).toNat < LL
      exact Nat.lt_of_le_of_lt (show _ ≤ 1000 by omega) (by decide)
    · exact ⟨⟨[.i .i64 r_0, .i .i64 i_0], [], [], [], by simp [gets, tsOf, g0, g1, g2, g3, g4], by simp [gets, g0, g1, g2, g3, g4], rfl, rfl, by simp [listsOf] <;> rfl⟩⟩
  · exact h_.elim
abbrev lpC {A : Go.Rx.Alg} : Nat → Go.Rx.LoopS A := Go.Rx.lpOf [(38, [false, true, false, true, true, true], false, caF), (38, [false, true, false, true, true, true, true, true], false, cbF)]
theorem lpC_ok {d : Nat} (hd : 100 ≤ d) : LoopsAll (fs := fsh) (ov := true) Try.prog AW d lpC := lpOf_ok fun x hx => by
  simp only [List.mem_cons, List.not_mem_nil, or_false] at hx
  rcases hx with rfl | rfl
  · exact caF_ok (by omega)
  · exact cbF_ok (by omega)
theorem chk_eq (l : Ll) (KK : KS (stdA fsh true)) : sFunc Try.prog 30 (sCall Try.prog 30 (spOf sp0) lpC 20) lpC 38 [.agg [.ls false 0 (Ll.len l)]] (lsMem 0 [([.int .i64, .int .i64, .int .i64, .int .i64], l)]) 1 KK =
  (cond (decide ((Ll.len l) = (0 : Int)))
 (KK (.i .i64 (6 : Int)) (lsMem 0 [([.int .i64, .int .i64, .int .i64, .int .i64], l)]) 1 [])
 (cond (decide ((Ll.len l) > (16 : Int)))
 (KK (.i .i64 (8 : Int)) (lsMem 0 [([.int .i64, .int .i64, .int .i64, .int .i64], l)]) 1 [])
 ((Ll.len l) = (Ll.len l) ∧ ((Ll.len l) = (Ll.len l) ∧ ((0 : Int) = (0 : Int) ∧ ((Ll.len l) ≤ (16 : Int) ∧ (cond (decide ((bI l) < (Ll.len l)))
 (KK (.i .i64 (2 : Int)) (lsMem 0 [([.int .i64, .int .i64, .int .i64, .int .i64], l)]) 1 [])
 ((Ll.len l) = (Ll.len l) ∧ ((Ll.len l) = (Ll.len l) ∧ ((0 : Int) = (0 : Int) ∧ ((1048576 : Int) = (1048576 : Int) ∧ ((Ll.len l) ≤ (16 : Int) ∧ ((Ll.len l) ≤ (bI l) ∧ (cond (decide ((1048576 : Int) < (sumN l l.length)))
 (KK (.i .i64 (5 : Int)) (lsMem 0 [([.int .i64, .int .i64, .int .i64, .int .i64], l)]) 1 [])
 (KK (.i .i64 (0 : Int)) (lsMem 0 [([.int .i64, .int .i64, .int .i64, .int .i64], l)]) 1 []))))))))))))))) := by kernel_rfl
theorem chk_pure {m : Nat} (hm : 200 ≤ m) {H : Hp} {nx : Nat} {v_l : LV} {l : Ll} (hl_l : IsL H nx [.int .i64, .int .i64, .int .i64, .int .i64] l v_l) : Pure Try.prog AW m 38 [.agg [v_l]] H nx (.i .i64 (holeE l)) := by
  obtain ⟨ν, n1, n2, n3, n4⟩ := ls_in (fs := fsh) (ov := true) (l := [([.int .i64, .int .i64, .int .i64, .int .i64], l)]) (lvs := [v_l]) 0 (fun i x lv e1 e2 => by
    cases i with
    | zero => simp at e1 e2; subst e1 e2; exact hl_l
    | succ i =>
      simp at e1) rfl
  refine pure_of (n := 20) (d := m - 21) (U := 30) (fs := fsh) (ov := true) sp0_ok sp0_aw (lpC_ok (by omega)) (by decide) (by decide) (by omega) (args := [.agg [.ls false 0 (Ll.len l)]]) (M := lsMem 0 [([.int .i64, .int .i64, .int .i64, .int .i64], l)]) (snx := 1) ?_ (VSL.cons ⟨_, rfl, (VSL.cons (n4 0 _ _ rfl rfl) rfl)⟩ rfl) (hs_in n2 n3)
  rw [chk_eq]
  simp only [cond_iff, InK64]
  have hl : Ll.len l = (l.length : Int) := rfl
  have c0 : holeE l = if l.length = 0 then 6 else if 16 < l.length then 8 else if bI l < l.length then 2 else if 1048576 < sumN l l.length then 5 else 0 := rfl
  have c4 : (fsh.i 4 [l] [] : Int) = bI l := rfl
  repeat' (first | apply And.intro | intro _)
  all_goals first
    | trivial
    | omega
    | (refine end_i ?_; show _ = holeE l; rw [c0]; repeat' split
       all_goals omega)
abbrev chkS {A : Go.Rx.Alg} : List (Go.Rx.SV A) → Go.Rx.SH A → Nat → Go.Rx.KS A → A.R := fun args_ M_ snx_ K_ => match args_ with
  | [.agg [x_l]] => (match Go.Rx.lsArg M_ [.int .i64, .int .i64, .int .i64, .int .i64] x_l with | some (l, n_l) => (A.need .eql n_l (A.len l) (K_ (.i .i64 (A.app 1 [l] [])) M_ snx_ [])) | none => A.fail "chk")
  | _ => A.fail "chk"
theorem chkS_ok {ov : Bool} {d : Nat} (hd : 200 ≤ d) : SpecOK (fs := fsh) (ov := ov) Try.prog AW d 38 chkS := by
  intro m_ hm_ args_ M_ snx_ K_ h_ ν_ largs_ H_ nx_ ha_ hM_
  unfold chkS at h_
  split at h_
  · rename_i x_l
    obtain ⟨y1, r1, rfl, ⟨l1, rfl, ⟨v_l, r2, rfl, hx_l, rfl⟩⟩, rfl⟩ := ha_
    split at h_
    · rename_i l n_l q_l
      obtain ⟨e_l, h_⟩ := h_
      exact pure_got (chk_pure (by omega) (lsArg_ok hM_ hx_l q_l e_l)) hM_ (v := .i .i64 _) rfl h_
    · exact h_.elim
  · exact h_.elim

theorem rca_eq (i s : Int) (l : Ll) (T : Al (SV (stdA fsh true))) (M : Al (SO (stdA fsh true))) (KK : Ex → List (SV (stdA fsh true)) → List (SO (stdA fsh true)) → List Ll → Prop) : sCode Try.prog (sCall Try.prog 30 (spOf sp0) noLoop 20) ⟨49, false, noLoop 49⟩ 30 (false :: [false, true, false, true, true, true, true]) (bodyAt Try.prog 49 [false, true, false, true, true, true, true]) (hdL (bodyAt Try.prog 49 [false, true, false, true, true, true, true]) T M 68 2 [(1, .p 1 0)] [(0, .list 0 [.int .i64, .int .i64, .int .i64, .int .i64] false l), (1, .row 25 [.ls false 0 (Ll.len l)])] [(3, .i .i64 s), (4, .i .i64 i)] [] [] [] []) (outL 2 (tsOf [3, 4] [2]) [] [] [] KK) =
  (cond (decide (i < (Ll.len l)))
 ((0 : Int) ≤ i ∧ (i < (Ll.len l) ∧ (i < (Ll.len l) ∧ (cond (decide ((Ll.get l i 0) < (1 : Int)))
 (KK .ret [(.i .i64 (2 : Int))] [] [])
 (cond (decide ((Ll.get l i 1) < (0 : Int)))
 (KK .ret [(.i .i64 (2 : Int))] [] [])
 (cond (decide ((Ll.get l i 1) > (Ll.get l i 0)))
 (KK .ret [(.i .i64 (2 : Int))] [] [])
 (cond (decide ((Ll.get l i 2) < (1 : Int)))
 (KK .ret [(.i .i64 (2 : Int))] [] [])
 (cond (decide ((Ll.get l i 2) > (5000 : Int)))
 (KK .ret [(.i .i64 (2 : Int))] [] [])
 (cond (decide ((Ll.get l i 3) < (1 : Int)))
 (KK .ret [(.i .i64 (2 : Int))] [] [])
 (cond (decide ((Ll.get l i 3) > (200 : Int)))
 (KK .ret [(.i .i64 (2 : Int))] [] [])
 (InK .i64 (s + (minL (Ll.get l i 0) (1048577 : Int))) ∧ (InK .i64 (i + (1 : Int)) ∧ (KK .normal [(.i .i64 (s + (minL (Ll.get l i 0) (1048577 : Int)))), (.i .i64 (i + (1 : Int)))] [] [])))))))))))))
 (KK (.exit 0) [(.i .i64 s), (.i .i64 i)] [] [])) := by kernel_rfl
theorem rca_go (l : Ll) (i : Int) (s : Int) (i_0 : Int) (s_0 : Int) (r1 : i_0 = (0 : Int)) (r2 : s_0 = (0 : Int)) (T : Al (SV (stdA fsh true))) (M : Al (SO (stdA fsh true))) (KK : Ex → List (SV (stdA fsh true)) → List (SO (stdA fsh true)) → List Ll → Prop) (p1 : (Ll.len l) ≤ (16 : Int)) (hI : 0 ≤ i ∧ i ≤ bI l ∧ s = minN l i.toNat) (hn : ∀ (i' : Int) (s' : Int), 0 ≤ i' ∧ i' ≤ bI l ∧ s' = minN l i'.toNat → (20 - i').toNat < (20 - i).toNat → KK .normal [.i .i64 s', .i .i64 i'] [] []) (hx1 : (bI l) < (Ll.len l) → KK .ret [.i .i64 (2 : Int)] [] []) (hx2 : ¬ ((bI l) < (Ll.len l)) → KK (.exit 0) [.i .i64 (minN l l.length), .i .i64 (Ll.len l)] [] []) :
    sCode Try.prog (sCall Try.prog 30 (spOf sp0) noLoop 20) ⟨49, false, noLoop 49⟩ 30 (false :: [false, true, false, true, true, true, true]) (bodyAt Try.prog 49 [false, true, false, true, true, true, true]) (hdL (bodyAt Try.prog 49 [false, true, false, true, true, true, true]) T M 68 2 [(1, .p 1 0)] [(0, .list 0 [.int .i64, .int .i64, .int .i64, .int .i64] false l), (1, .row 25 [.ls false 0 (Ll.len l)])] [(3, .i .i64 s), (4, .i .i64 i)] [] [] [] []) (outL 2 (tsOf [3, 4] [2]) [] [] [] KK) := by
  refine Eq.mpr (rca_eq i s l T M KK) ?_
  obtain ⟨i0, i1, rfl⟩ := hI
  simp only [cond_iff, InK64]
  have hl : Ll.len l = (l.length : Int) := rfl
  obtain ⟨b0, b1, b2⟩ := bI_spec l
  have hg : GoodN l i.toNat := good_of (by omega)
  obtain ⟨_, _, _, _, _, g6, g7, _⟩ := sumN_b hg
  have e := minN_succ (l := l) i0
  have hm := minL_eq (Ll.get l i 0) 1048577
  have N : i < Ll.len l → sBad l i = false → i + 1 ≤ leastN (sBad l) l.length 0 → minN l i.toNat + minL (Ll.get l i 0) 1048577 ≤ 9223372036854775807 ∧ -9223372036854775808 ≤ minN l i.toNat + minL (Ll.get l i 0) 1048577 ∧ KK .normal [.i .i64 (minN l i.toNat + minL (Ll.get l i 0) 1048577), .i .i64 (i + 1)] [] [] := fun h hb h2 => by
    have hz := sBad_no hb
    refine ⟨?_, ?_, hn (i + 1) _ ⟨by omega, h2, by rw [show (i + 1).toNat = i.toNat + 1 by omega, e]⟩ (by omega)⟩
    all_goals (split at hm <;> omega)
  have X : ¬ i < Ll.len l → KK (.exit 0) [.i .i64 (minN l i.toNat), .i .i64 i] [] [] := fun h => by
    obtain rfl : i = l.length := by omega
    exact hx2 (show ¬ (bI l < Ll.len l) by omega)
  by_cases h : i < Ll.len l
  · have hs := leastN_step (p := sBad l) (k := l.length) i0 i1 (by omega)
    have R : sBad l i = true → KK .ret [.i .i64 (2 : Int)] [] [] := fun h2 => hx1 (by have : bI l = i := hs.1 h2; show bI l < Ll.len l; omega)
    have hN := N h
    repeat' (first | apply And.intro | intro _)
    all_goals first
      | trivial
      | omega
      | (refine R ?_; unfold sBad; rw [decide_eq_true_iff]; omega)
      | (have hb : sBad l i = false := (by unfold sBad; rw [decide_eq_false_iff_not]; omega)
         have h3 := hN hb (hs.2 hb)
         first | exact h3 | exact h3.1 | exact h3.2.1 | exact h3.2.2)
  · repeat' (first | apply And.intro | intro _)
    all_goals first
      | trivial
      | omega
      | exact X (by omega)
abbrev rcaF {A : Go.Rx.Alg} : Code → Go.Rx.SS A → (Go.Rx.Ex → Go.Rx.SS A → A.R) → A.R := fun c_ s_ K_ => match s_.T.get 1, s_.H.get 0, s_.H.get 1, s_.T.get 3, s_.T.get 4 with
  | some (.p 1 0), some (.list t1 k1 false l), some (.row t2 [.ls false 0 m3]), some (.i .i64 s), some (.i .i64 i) => bif ((((Nat.beq s_.N 68 && Nat.beq s_.nx 2) && Nat.beq t1 0) && decide (k1 = [.int .i64, .int .i64, .int .i64, .int .i64])) && Nat.beq t2 25) then (A.need .eql m3 (A.len l) (A.need .eql i (A.lit 0) (A.need .eql s (A.lit 0) (A.need .leq (A.len l) (A.lit 16) ((A.br (A.cmp .lss (A.app 4 [l] []) (A.len l)) (fun _ => K_ .ret (Go.Rx.hdL c_ s_.T (Go.Rx.kills [] s_.H) 68 2 [(1, .p 1 0)] [(0, .list 0 [.int .i64, .int .i64, .int .i64, .int .i64] false l), (1, .row 25 [.ls false 0 (A.len l)])] [(2, .i .i64 (A.lit 2))] [] [] [] (Go.Rx.addW ([] ++ []) s_.wr))) (fun _ => K_ (.exit 0) (Go.Rx.hdL c_ s_.T (Go.Rx.kills [] s_.H) 68 2 [(1, .p 1 0)] [(0, .list 0 [.int .i64, .int .i64, .int .i64, .int .i64] false l), (1, .row 25 [.ls false 0 (A.len l)])] [(3, .i .i64 (A.app 7 [l] [])), (4, .i .i64 (A.len l))] [] [] [] (Go.Rx.addW ([] ++ []) s_.wr))))))))) else A.fail "frame of rca"
  | _, _, _, _, _ => A.fail "rca"
theorem rcaF_ok {d : Nat} (hd : 100 ≤ d) : LoopOK (fs := fsh) (ov := true) Try.prog AW d 49 [false, true, false, true, true, true, true] false rcaF := by
  intro m_ hm_ fn_ c0_ hfn_ hb_ c_ ro_ hro_ hc_ s_ K_ W_ ν_ S_ h_ hs_
  obtain rfl := body_of hfn_ hb_ hc_
  unfold rcaF at h_
  split at h_
  · rename_i t1 k1 l_0 t2 m3_0 s_0_0 i_0_0 g0 g1 g2 g3 g4
    obtain ⟨l, rfl⟩ : ∃ q : Ll, q = l_0 := ⟨l_0, rfl⟩
    obtain ⟨m3, rfl⟩ : ∃ q : Int, q = m3_0 := ⟨m3_0, rfl⟩
    obtain ⟨s_0, rfl⟩ : ∃ q : Int, q = s_0_0 := ⟨s_0_0, rfl⟩
    obtain ⟨i_0, rfl⟩ : ∃ q : Int, q = i_0_0 := ⟨i_0_0, rfl⟩
    obtain ⟨T_, FN_, M_, snx_, wr_⟩ := s_
    have hN : ((((Nat.beq FN_ 68 && Nat.beq snx_ 2) && Nat.beq t1 0) && decide (k1 = [.int .i64, .int .i64, .int .i64, .int .i64])) && Nat.beq t2 25) = true := by
      cases hq : (((((Nat.beq FN_ 68 && Nat.beq snx_ 2) && Nat.beq t1 0) && decide (k1 = [.int .i64, .int .i64, .int .i64, .int .i64])) && Nat.beq t2 25) : Bool) with
      | true => rfl
      | false => (rw [hq] at h_; exact h_.elim)
    rw [hN, cond_true] at h_
    simp only [Bool.and_eq_true, beq_iff, decide_eq_true_eq] at hN
    obtain ⟨⟨⟨⟨rfl, rfl⟩, rfl⟩, rfl⟩, rfl⟩ := hN
    obtain ⟨q0, h_⟩ := h_
    obtain rfl : m3 = (Ll.len l) := q0
    obtain ⟨q1, h_⟩ := h_
    have q1 : i_0 = (0 : Int) := q1
    obtain ⟨q2, h_⟩ := h_
    have q2 : s_0 = (0 : Int) := q2
    obtain ⟨q3, h_⟩ := h_
    have q3 : (Ll.len l) ≤ (16 : Int) := q3
    replace h_ : cond (decide ((bI l) < (Ll.len l))) (K_ .ret (hdL (bodyAt Try.prog 49 [false, true, false, true, true, true, true]) T_ (kills [] M_) 68 2 [(1, .p 1 0)] [(0, .list 0 [.int .i64, .int .i64, .int .i64, .int .i64] false l), (1, .row 25 [.ls false 0 (Ll.len l)])] [(2, .i .i64 (2 : Int))] [] [] [] (addW ([] ++ []) wr_))) (K_ (.exit 0) (hdL (bodyAt Try.prog 49 [false, true, false, true, true, true, true]) T_ (kills [] M_) 68 2 [(1, .p 1 0)] [(0, .list 0 [.int .i64, .int .i64, .int .i64, .int .i64] false l), (1, .row 25 [.ls false 0 (Ll.len l)])] [(3, .i .i64 (minN l l.length)), (4, .i .i64 (Ll.len l))] [] [] [] (addW ([] ++ []) wr_))) := h_
    have hx1 : (bI l) < (Ll.len l) → K_ .ret (hdL (bodyAt Try.prog 49 [false, true, false, true, true, true, true]) T_ (kills [] M_) 68 2 [(1, .p 1 0)] [(0, .list 0 [.int .i64, .int .i64, .int .i64, .int .i64] false l), (1, .row 25 [.ls false 0 (Ll.len l)])] [(2, .i .i64 (2 : Int))] [] [] [] (addW ([] ++ []) wr_)) := fun e1 => by
      have h2 := h_
      rw [decide_eq_true e1] at h2; simp only [cond_true, cond_false] at h2; exact h2
    have hx2 : ¬ ((bI l) < (Ll.len l)) → K_ (.exit 0) (hdL (bodyAt Try.prog 49 [false, true, false, true, true, true, true]) T_ (kills [] M_) 68 2 [(1, .p 1 0)] [(0, .list 0 [.int .i64, .int .i64, .int .i64, .int .i64] false l), (1, .row 25 [.ls false 0 (Ll.len l)])] [(3, .i .i64 (minN l l.length)), (4, .i .i64 (Ll.len l))] [] [] [] (addW ([] ++ []) wr_)) := fun e1 => by
      have h2 := h_
      rw [decide_eq_false e1] at h2; simp only [cond_true, cond_false] at h2; exact h2
    refine loop_ruleL (fs := fsh) (ov := true) (s := ⟨T_, 68, M_, 2, wr_⟩) (X := Int × Int) (B := []) (mv := []) (kt := [(1, .p 1 0)]) (kr := [(0, .list 0 [.int .i64, .int .i64, .int .i64, .int .i64] false l), (1, .row 25 [.ls false 0 (Ll.len l)])]) (ty := []) (x := (i_0, s_0))
      (Inv := (fun x_ : Int × Int => match x_ with | (i, s) => 0 ≤ i ∧ i ≤ bI l ∧ s = minN l i.toNat)) (μ := (fun x_ : Int × Int => match x_ with | (i, s) => (20 - i).toNat)) (ts := tsOf [3, 4] [2]) (sl := (fun x_ : Int × Int => match x_ with | (i, s) => [.i .i64 s, .i .i64 i])) (bl := (fun x_ : Int × Int => match x_ with | (i, s) => [])) (ll := (fun x_ : Int × Int => match x_ with | (i, s) => [])) (Q := fun e_ vs_ os_ hs_ => K_ e_ (hdL (bodyAt Try.prog 49 [false, true, false, true, true, true, true]) T_ (kills [] M_) 68 2 [(1, .p 1 0)] [(0, .list 0 [.int .i64, .int .i64, .int .i64, .int .i64] false l), (1, .row 25 [.ls false 0 (Ll.len l)])] (((tsOf [3, 4] [2]) e_).zip vs_) ([].zip os_) [] hs_ (addW ([] ++ []) wr_)))
      (L := LL) (U := 30) (cs := sCall Try.prog 30 (spOf sp0) noLoop 20) (call := CN Try.prog AW m_) (lp := ⟨49, false, noLoop 49⟩) (root := c0_) (p := [false, true, false, true, true, true, true])
      (show CallSOK _ _ from by
        have := sCall_ok (P := Try.prog) (d := m_ - 20) (U := 30) (lp := noLoop) (sp0_ok (fs := fsh) (ov := true) (d := m_ - 20)) (sp0_aw (fs := fsh) (ov := true)) (noLoop_ok) (by decide) rfl 20
        rwa [show 20 + (m_ - 20) = m_ by omega] at this) (ctx_of (g := 49) (rg := false) (at_ := noLoop 49) (fun p rg f h => by cases h) hfn_ hb_ hro_) (by decide) hc_
      (fun x o ho => by cases ho)
      (fun x hx => by cases hx) (fun x hx => by cases hx) (fun x hx => by cases hx)
      (fun x hx => by
        simp only [List.mem_cons, List.not_mem_nil, or_false] at hx
        rcases hx with rfl
        · exact g0) (fun x hx => by
        simp only [List.mem_cons, List.not_mem_nil, or_false] at hx
        rcases hx with rfl | rfl
        · exact ⟨g1, by simp⟩
        · exact ⟨g2, by simp⟩) ?_ (fun _ _ _ _ _ h => h) ?_ ?_ ?_ hs_
    · rintro ⟨i, s⟩ hI
      exact rca_go l i s i_0 s_0 q1 q2 T_ (kills [] M_) _ q3 hI (fun i' s' ha hb => ⟨(i', s'), ha, hb, rfl, rfl, rfl⟩) (fun e1 => ⟨by simp [SO.mine], hx1 e1⟩) (fun e1 => ⟨by simp [SO.mine], hx2 e1⟩)
    · show 0 ≤ i_0 ∧ i_0 ≤ bI l ∧ s_0 = minN l i_0.toNat
      exact ⟨by omega, by have := (bI_spec l).1; omega, by rw [q1, q2]; rfl⟩
    · show (20 - i_0).toNat < LL
      exact Nat.lt_of_le_of_lt (show _ ≤ 1000 by omega) (by decide)
    · exact ⟨⟨[.i .i64 s_0, .i .i64 i_0], [], [], [], by simp [gets, tsOf, g0, g1, g2, g3, g4], by simp [gets, g0, g1, g2, g3, g4], rfl, rfl, by simp [listsOf] <;> rfl⟩⟩
  · exact h_.elim
abbrev lpRC {A : Go.Rx.Alg} : Nat → Go.Rx.LoopS A := Go.Rx.lpOf [(49, [false, true, false, true, true, true, true], false, rcaF)]
theorem lpRC_ok {d : Nat} (hd : 100 ≤ d) : LoopsAll (fs := fsh) (ov := true) Try.prog AW d lpRC := lpOf_ok fun x hx => by
  simp only [List.mem_cons, List.not_mem_nil, or_false] at hx
  rcases hx with rfl
  · exact rcaF_ok (by omega)
theorem rchk_eq (l : Ll) (KK : KS (stdA fsh true)) : sFunc Try.prog 30 (sCall Try.prog 30 (spOf sp0) lpRC 20) lpRC 49 [.agg [.ls false 0 (Ll.len l)]] (lsMem 0 [([.int .i64, .int .i64, .int .i64, .int .i64], l)]) 1 KK =
  (cond (decide ((Ll.len l) = (0 : Int)))
 (KK (.i .i64 (6 : Int)) (lsMem 0 [([.int .i64, .int .i64, .int .i64, .int .i64], l)]) 1 [])
 (cond (decide ((Ll.len l) > (16 : Int)))
 (KK (.i .i64 (8 : Int)) (lsMem 0 [([.int .i64, .int .i64, .int .i64, .int .i64], l)]) 1 [])
 ((Ll.len l) = (Ll.len l) ∧ ((0 : Int) = (0 : Int) ∧ ((0 : Int) = (0 : Int) ∧ ((Ll.len l) ≤ (16 : Int) ∧ (cond (decide ((bI l) < (Ll.len l)))
 (KK (.i .i64 (2 : Int)) (lsMem 0 [([.int .i64, .int .i64, .int .i64, .int .i64], l)]) 1 [])
 (cond (decide ((minN l l.length) > (1048576 : Int)))
 (KK (.i .i64 (5 : Int)) (lsMem 0 [([.int .i64, .int .i64, .int .i64, .int .i64], l)]) 1 [])
 (KK (.i .i64 (0 : Int)) (lsMem 0 [([.int .i64, .int .i64, .int .i64, .int .i64], l)]) 1 []))))))))) := by kernel_rfl
theorem rchk_pure {m : Nat} (hm : 200 ≤ m) {H : Hp} {nx : Nat} {v_l : LV} {l : Ll} (hl_l : IsL H nx [.int .i64, .int .i64, .int .i64, .int .i64] l v_l) : Pure Try.prog AW m 49 [.agg [v_l]] H nx (.i .i64 (holeE l)) := by
  obtain ⟨ν, n1, n2, n3, n4⟩ := ls_in (fs := fsh) (ov := true) (l := [([.int .i64, .int .i64, .int .i64, .int .i64], l)]) (lvs := [v_l]) 0 (fun i x lv e1 e2 => by
    cases i with
    | zero => simp at e1 e2; subst e1 e2; exact hl_l
    | succ i =>
      simp at e1) rfl
  refine pure_of (n := 20) (d := m - 21) (U := 30) (fs := fsh) (ov := true) sp0_ok sp0_aw (lpRC_ok (by omega)) (by decide) (by decide) (by omega) (args := [.agg [.ls false 0 (Ll.len l)]]) (M := lsMem 0 [([.int .i64, .int .i64, .int .i64, .int .i64], l)]) (snx := 1) ?_ (VSL.cons ⟨_, rfl, (VSL.cons (n4 0 _ _ rfl rfl) rfl)⟩ rfl) (hs_in n2 n3)
  rw [rchk_eq]
  simp only [cond_iff, InK64]
  have hl : Ll.len l = (l.length : Int) := rfl
  have c0 : holeE l = if l.length = 0 then 6 else if 16 < l.length then 8 else if bI l < l.length then 2 else if 1048576 < sumN l l.length then 5 else 0 := rfl
  have c1 : (l.length : Int) ≤ bI l → (minN l l.length = sumN l l.length ∨ (1048576 < minN l l.length ∧ 1048576 < sumN l l.length)) := fun h => (sumN_b (good_of h)).2.2.2.2.2.2.2
  have c2 : (l.length : Int) ≤ bI l → minN l l.length ≤ l.length * 1048577 ∧ (l.length : Int) ≤ minN l l.length := fun h => ⟨(sumN_b (good_of h)).2.2.2.2.2.2.1, (sumN_b (good_of h)).2.2.2.2.2.1⟩
  repeat' (first | apply And.intro | intro _)
  all_goals first
    | trivial
    | omega
    | (refine end_i ?_; show _ = holeE l; rw [c0]; repeat' split
       all_goals omega)
abbrev rchkS {A : Go.Rx.Alg} : List (Go.Rx.SV A) → Go.Rx.SH A → Nat → Go.Rx.KS A → A.R := fun args_ M_ snx_ K_ => match args_ with
  | [.agg [x_l]] => (match Go.Rx.lsArg M_ [.int .i64, .int .i64, .int .i64, .int .i64] x_l with | some (l, n_l) => (A.need .eql n_l (A.len l) (K_ (.i .i64 (A.app 1 [l] [])) M_ snx_ [])) | none => A.fail "rchk")
  | _ => A.fail "rchk"
theorem rchkS_ok {ov : Bool} {d : Nat} (hd : 200 ≤ d) : SpecOK (fs := fsh) (ov := ov) Try.prog AW d 49 rchkS := by
  intro m_ hm_ args_ M_ snx_ K_ h_ ν_ largs_ H_ nx_ ha_ hM_
  unfold rchkS at h_
  split at h_
  · rename_i x_l
    obtain ⟨y1, r1, rfl, ⟨l1, rfl, ⟨v_l, r2, rfl, hx_l, rfl⟩⟩, rfl⟩ := ha_
    split at h_
    · rename_i l n_l q_l
      obtain ⟨e_l, h_⟩ := h_
      exact pure_got (rchk_pure (by omega) (lsArg_ok hM_ hx_l q_l e_l)) hM_ (v := .i .i64 _) rfl h_
    · exact h_.elim
  · exact h_.elim

abbrev spA {A : Go.Rx.Alg} : Go.Rx.SpL A := [(AW, Go.Rx.awakeS), (38, chkS), (49, rchkS)]
theorem spA_ok {ov : Bool} {d : Nat} (hd : 200 ≤ d) : SpOK (fs := fsh) (ov := ov) Try.prog AW d spA := SpOK.cons awake_ok (SpOK.cons (chkS_ok (by omega)) (SpOK.cons (rchkS_ok (by omega)) SpOK.nil))
theorem spA_aw {fs : Fs} {ov : Bool} : (spOf (A := stdA fs ov) spA AW).isSome = true := rfl

theorem rva_eq (i s : Int) (l : Ll) (T : Al (SV (stdA fsh true))) (M : Al (SO (stdA fsh true))) (KK : Ex → List (SV (stdA fsh true)) → List (SO (stdA fsh true)) → List Ll → Prop) : sCode Try.prog (sCall Try.prog 30 (spOf sp0) noLoop 20) ⟨28, false, noLoop 28⟩ 30 (false :: [false, true, false, true, true, true]) (bodyAt Try.prog 28 [false, true, false, true, true, true]) (hdL (bodyAt Try.prog 28 [false, true, false, true, true, true]) T M 31 2 [(1, .p 1 0)] [(0, .list 0 [.int .i64, .int .i64, .int .i64, .int .i64] false l), (1, .row 25 [.ls false 0 (Ll.len l)])] [(3, .i .i64 s), (4, .i .i64 i)] [] [] [] []) (outL 2 (tsOf [3, 4] []) [] [] [] KK) =
  (cond (decide (i < (Ll.len l)))
 ((0 : Int) ≤ i ∧ (i < (Ll.len l) ∧ (i < (Ll.len l) ∧ ((0 : Int) ≤ i ∧ (i < (Ll.len l) ∧ (i < (Ll.len l) ∧ (InK .i64 ((Ll.get l i 0) * (Ll.get l i 2)) ∧ (InK .i64 (s + ((Ll.get l i 0) * (Ll.get l i 2))) ∧ (InK .i64 (i + (1 : Int)) ∧ (KK .normal [(.i .i64 (s + ((Ll.get l i 0) * (Ll.get l i 2)))), (.i .i64 (i + (1 : Int)))] [] []))))))))))
 (KK (.exit 0) [(.i .i64 s), (.i .i64 i)] [] [])) := by kernel_rfl
theorem rva_go (l : Ll) (i : Int) (s : Int) (i_0 : Int) (s_0 : Int) (r1 : i_0 = (0 : Int)) (r2 : s_0 = (0 : Int)) (T : Al (SV (stdA fsh true))) (M : Al (SO (stdA fsh true))) (KK : Ex → List (SV (stdA fsh true)) → List (SO (stdA fsh true)) → List Ll → Prop) (p1 : (holeE l) = (0 : Int)) (hI : 0 ≤ i ∧ i ≤ l.length ∧ s = volN l i.toNat) (hn : ∀ (i' : Int) (s' : Int), 0 ≤ i' ∧ i' ≤ l.length ∧ s' = volN l i'.toNat → (20 - i').toNat < (20 - i).toNat → KK .normal [.i .i64 s', .i .i64 i'] [] []) (hx1 : KK (.exit 0) [.i .i64 (volN l l.length), .i .i64 (Ll.len l)] [] []) :
    sCode Try.prog (sCall Try.prog 30 (spOf sp0) noLoop 20) ⟨28, false, noLoop 28⟩ 30 (false :: [false, true, false, true, true, true]) (bodyAt Try.prog 28 [false, true, false, true, true, true]) (hdL (bodyAt Try.prog 28 [false, true, false, true, true, true]) T M 31 2 [(1, .p 1 0)] [(0, .list 0 [.int .i64, .int .i64, .int .i64, .int .i64] false l), (1, .row 25 [.ls false 0 (Ll.len l)])] [(3, .i .i64 s), (4, .i .i64 i)] [] [] [] []) (outL 2 (tsOf [3, 4] []) [] [] [] KK) := by
  refine Eq.mpr (rva_eq i s l T M KK) ?_
  simp only [cond_iff, InK64]
  obtain ⟨i0, i1, rfl⟩ := hI
  have hl : Ll.len l = (l.length : Int) := rfl
  have p0 : HoleOK l := hole_of p1
  have hlen := p0.len
  by_cases h : i < Ll.len l
  · have ha := p0.at i0 (by omega)
    have hb := p0.b (n := i.toNat) (by omega)
    have hm := mul_bd (show 0 ≤ Ll.get l i 0 by omega) ha.1.2 (show 0 ≤ Ll.get l i 2 by omega) ha.2.2.2.2.1
    have e := volN_succ (l := l) i0
    have hN := hn (i + 1) (volN l i.toNat + Ll.get l i 0 * Ll.get l i 2) ⟨by omega, by omega, by rw [show (i + 1).toNat = i.toNat + 1 by omega, e]⟩ (by omega)
    generalize Ll.get l i 0 * Ll.get l i 2 = m at *
    repeat' (first | apply And.intro | intro _)
    all_goals first | trivial | omega | exact hN
  · obtain rfl : i = l.length := by omega
    repeat' (first | apply And.intro | intro _)
    all_goals first | trivial | omega | exact hx1
abbrev rvaF {A : Go.Rx.Alg} : Code → Go.Rx.SS A → (Go.Rx.Ex → Go.Rx.SS A → A.R) → A.R := fun c_ s_ K_ => match s_.T.get 1, s_.H.get 0, s_.H.get 1, s_.T.get 3, s_.T.get 4 with
  | some (.p 1 0), some (.list t1 k1 false l), some (.row t2 [.ls false 0 m3]), some (.i .i64 s), some (.i .i64 i) => bif ((((Nat.beq s_.N 31 && Nat.beq s_.nx 2) && Nat.beq t1 0) && decide (k1 = [.int .i64, .int .i64, .int .i64, .int .i64])) && Nat.beq t2 25) then (A.need .eql m3 (A.len l) (A.need .eql (A.app 1 [l] []) (A.lit 0) (A.need .eql i (A.lit 0) (A.need .eql s (A.lit 0) (K_ (.exit 0) (Go.Rx.hdL c_ s_.T (Go.Rx.kills [] s_.H) 31 2 [(1, .p 1 0)] [(0, .list 0 [.int .i64, .int .i64, .int .i64, .int .i64] false l), (1, .row 25 [.ls false 0 (A.len l)])] [(3, .i .i64 (A.app 8 [l] [])), (4, .i .i64 (A.len l))] [] [] [] (Go.Rx.addW ([] ++ []) s_.wr))))))) else A.fail "frame of rva"
  | _, _, _, _, _ => A.fail "rva"
theorem rvaF_ok {d : Nat} (hd : 100 ≤ d) : LoopOK (fs := fsh) (ov := true) Try.prog AW d 28 [false, true, false, true, true, true] false rvaF := by
  intro m_ hm_ fn_ c0_ hfn_ hb_ c_ ro_ hro_ hc_ s_ K_ W_ ν_ S_ h_ hs_
  obtain rfl := body_of hfn_ hb_ hc_
  unfold rvaF at h_
  split at h_
  · rename_i t1 k1 l_0 t2 m3_0 s_0_0 i_0_0 g0 g1 g2 g3 g4
    obtain ⟨l, rfl⟩ : ∃ q : Ll, q = l_0 := ⟨l_0, rfl⟩
    obtain ⟨m3, rfl⟩ : ∃ q : Int, q = m3_0 := ⟨m3_0, rfl⟩
    obtain ⟨s_0, rfl⟩ : ∃ q : Int, q = s_0_0 := ⟨s_0_0, rfl⟩
    obtain ⟨i_0, rfl⟩ : ∃ q : Int, q = i_0_0 := ⟨i_0_0, rfl⟩
    obtain ⟨T_, FN_, M_, snx_, wr_⟩ := s_
    have hN : ((((Nat.beq FN_ 31 && Nat.beq snx_ 2) && Nat.beq t1 0) && decide (k1 = [.int .i64, .int .i64, .int .i64, .int .i64])) && Nat.beq t2 25) = true := by
      cases hq : (((((Nat.beq FN_ 31 && Nat.beq snx_ 2) && Nat.beq t1 0) && decide (k1 = [.int .i64, .int .i64, .int .i64, .int .i64])) && Nat.beq t2 25) : Bool) with
      | true => rfl
      | false => (rw [hq] at h_; exact h_.elim)
    rw [hN, cond_true] at h_
    simp only [Bool.and_eq_true, beq_iff, decide_eq_true_eq] at hN
    obtain ⟨⟨⟨⟨rfl, rfl⟩, rfl⟩, rfl⟩, rfl⟩ := hN
    obtain ⟨q0, h_⟩ := h_
    obtain rfl : m3 = (Ll.len l) := q0
    obtain ⟨q1, h_⟩ := h_
    have q1 : (holeE l) = (0 : Int) := q1
    obtain ⟨q2, h_⟩ := h_
    have q2 : i_0 = (0 : Int) := q2
    obtain ⟨q3, h_⟩ := h_
    have q3 : s_0 = (0 : Int) := q3
    replace h_ : K_ (.exit 0) (hdL (bodyAt Try.prog 28 [false, true, false, true, true, true]) T_ (kills [] M_) 31 2 [(1, .p 1 0)] [(0, .list 0 [.int .i64, .int .i64, .int .i64, .int .i64] false l), (1, .row 25 [.ls false 0 (Ll.len l)])] [(3, .i .i64 (volN l l.length)), (4, .i .i64 (Ll.len l))] [] [] [] (addW ([] ++ []) wr_)) := h_
    have hx1 : K_ (.exit 0) (hdL (bodyAt Try.prog 28 [false, true, false, true, true, true]) T_ (kills [] M_) 31 2 [(1, .p 1 0)] [(0, .list 0 [.int .i64, .int .i64, .int .i64, .int .i64] false l), (1, .row 25 [.ls false 0 (Ll.len l)])] [(3, .i .i64 (volN l l.length)), (4, .i .i64 (Ll.len l))] [] [] [] (addW ([] ++ []) wr_)) := by
      have h2 := h_
      exact h2
    refine loop_ruleL (fs := fsh) (ov := true) (s := ⟨T_, 31, M_, 2, wr_⟩) (X := Int × Int) (B := []) (mv := []) (kt := [(1, .p 1 0)]) (kr := [(0, .list 0 [.int .i64, .int .i64, .int .i64, .int .i64] false l), (1, .row 25 [.ls false 0 (Ll.len l)])]) (ty := []) (x := (i_0, s_0))
      (Inv := (fun x_ : Int × Int => match x_ with | (i, s) => 0 ≤ i ∧ i ≤ l.length ∧ s = volN l i.toNat)) (μ := (fun x_ : Int × Int => match x_ with | (i, s) => (20 - i).toNat)) (ts := tsOf [3, 4] []) (sl := (fun x_ : Int × Int => match x_ with | (i, s) => [.i .i64 s, .i .i64 i])) (bl := (fun x_ : Int × Int => match x_ with | (i, s) => [])) (ll := (fun x_ : Int × Int => match x_ with | (i, s) => [])) (Q := fun e_ vs_ os_ hs_ => K_ e_ (hdL (bodyAt Try.prog 28 [false, true, false, true, true, true]) T_ (kills [] M_) 31 2 [(1, .p 1 0)] [(0, .list 0 [.int .i64, .int .i64, .int .i64, .int .i64] false l), (1, .row 25 [.ls false 0 (Ll.len l)])] (((tsOf [3, 4] []) e_).zip vs_) ([].zip os_) [] hs_ (addW ([] ++ []) wr_)))
      (L := LL) (U := 30) (cs := sCall Try.prog 30 (spOf sp0) noLoop 20) (call := CN Try.prog AW m_) (lp := ⟨28, false, noLoop 28⟩) (root := c0_) (p := [false, true, false, true, true, true])
      (show CallSOK _ _ from by
        have := sCall_ok (P := Try.prog) (d := m_ - 20) (U := 30) (lp := noLoop) (sp0_ok (fs := fsh) (ov := true) (d := m_ - 20)) (sp0_aw (fs := fsh) (ov := true)) (noLoop_ok) (by decide) rfl 20
        rwa [show 20 + (m_ - 20) = m_ by omega] at this) (ctx_of (g := 28) (rg := false) (at_ := noLoop 28) (fun p rg f h => by cases h) hfn_ hb_ hro_) (by decide) hc_
      (fun x o ho => by cases ho)
      (fun x hx => by cases hx) (fun x hx => by cases hx) (fun x hx => by cases hx)
      (fun x hx => by
        simp only [List.mem_cons, List.not_mem_nil, or_false] at hx
        rcases hx with rfl
        · exact g0) (fun x hx => by
        simp only [List.mem_cons, List.not_mem_nil, or_false] at hx
        rcases hx with rfl | rfl
        · exact ⟨g1, by simp⟩
        · exact ⟨g2, by simp⟩) ?_ (fun _ _ _ _ _ h => h) ?_ ?_ ?_ hs_
    · rintro ⟨i, s⟩ hI
      exact rva_go l i s i_0 s_0 q2 q3 T_ (kills [] M_) _ q1 hI (fun i' s' ha hb => ⟨(i', s'), ha, hb, rfl, rfl, rfl⟩) (⟨by simp [SO.mine], hx1⟩)
    · show 0 ≤ i_0 ∧ i_0 ≤ l.length ∧ s_0 = volN l i_0.toNat
      have p0 := hole_of q1
      exact ⟨by omega, by omega, by rw [q2, q3]; rfl⟩
    · show (20 - i_0).toNat < LL
      exact Nat.lt_of_le_of_lt (show _ ≤ 1000 by omega) (by decide)
    · exact ⟨⟨[.i .i64 s_0, .i .i64 i_0], [], [], [], by simp [gets, tsOf, g0, g1, g2, g3, g4], by simp [gets, g0, g1, g2, g3, g4], rfl, rfl, by simp [listsOf] <;> rfl⟩⟩
  · exact h_.elim
abbrev lpRV {A : Go.Rx.Alg} : Nat → Go.Rx.LoopS A := Go.Rx.lpOf [(28, [false, true, false, true, true, true], false, rvaF)]
theorem lpRV_ok {d : Nat} (hd : 100 ≤ d) : LoopsAll (fs := fsh) (ov := true) Try.prog AW d lpRV := lpOf_ok fun x hx => by
  simp only [List.mem_cons, List.not_mem_nil, or_false] at hx
  rcases hx with rfl
  · exact rvaF_ok (by omega)
theorem rvol_eq (l : Ll) (KK : KS (stdA fsh true)) : sFunc Try.prog 30 (sCall Try.prog 30 (spOf spA) lpRV 20) lpRV 28 [.agg [.ls false 0 (Ll.len l)]] (lsMem 0 [([.int .i64, .int .i64, .int .i64, .int .i64], l)]) 1 KK =
  ((Ll.len l) = (Ll.len l) ∧ (cond (decide ((holeE l) ≠ (0 : Int)))
 (KK (.i .i64 (0 : Int)) (lsMem 0 [([.int .i64, .int .i64, .int .i64, .int .i64], l)]) 1 [])
 ((Ll.len l) = (Ll.len l) ∧ ((holeE l) = (0 : Int) ∧ ((0 : Int) = (0 : Int) ∧ ((0 : Int) = (0 : Int) ∧ (KK (.i .i64 (volN l l.length)) (lsMem 0 [([.int .i64, .int .i64, .int .i64, .int .i64], l)]) 1 []))))))) := by kernel_rfl
theorem rvol_pure {m : Nat} (hm : 300 ≤ m) {H : Hp} {nx : Nat} {v_l : LV} {l : Ll} (hl_l : IsL H nx [.int .i64, .int .i64, .int .i64, .int .i64] l v_l) : Pure Try.prog AW m 28 [.agg [v_l]] H nx (.i .i64 (holeV l)) := by
  obtain ⟨ν, n1, n2, n3, n4⟩ := ls_in (fs := fsh) (ov := true) (l := [([.int .i64, .int .i64, .int .i64, .int .i64], l)]) (lvs := [v_l]) 0 (fun i x lv e1 e2 => by
    cases i with
    | zero => simp at e1 e2; subst e1 e2; exact hl_l
    | succ i =>
      simp at e1) rfl
  refine pure_of (n := 20) (d := m - 21) (U := 30) (fs := fsh) (ov := true) (spA_ok (by omega)) spA_aw (lpRV_ok (by omega)) (by decide) (by decide) (by omega) (args := [.agg [.ls false 0 (Ll.len l)]]) (M := lsMem 0 [([.int .i64, .int .i64, .int .i64, .int .i64], l)]) (snx := 1) ?_ (VSL.cons ⟨_, rfl, (VSL.cons (n4 0 _ _ rfl rfl) rfl)⟩ rfl) (hs_in n2 n3)
  rw [rvol_eq]
  simp only [cond_iff, InK64]
  have hl : Ll.len l = (l.length : Int) := rfl
  have c0 : holeV l = if holeE l = 0 then volN l l.length else 0 := rfl
  repeat' (first | apply And.intro | intro _)
  all_goals first
    | trivial
    | omega
    | (refine end_i ?_; show _ = holeV l; rw [c0]; split
       all_goals first | rfl | omega | contradiction)
abbrev rvolS {A : Go.Rx.Alg} : List (Go.Rx.SV A) → Go.Rx.SH A → Nat → Go.Rx.KS A → A.R := fun args_ M_ snx_ K_ => match args_ with
  | [.agg [x_l]] => (match Go.Rx.lsArg M_ [.int .i64, .int .i64, .int .i64, .int .i64] x_l with | some (l, n_l) => (A.need .eql n_l (A.len l) (K_ (.i .i64 (A.app 2 [l] [])) M_ snx_ [])) | none => A.fail "rvol")
  | _ => A.fail "rvol"
theorem rvolS_ok {ov : Bool} {d : Nat} (hd : 300 ≤ d) : SpecOK (fs := fsh) (ov := ov) Try.prog AW d 28 rvolS := by
  intro m_ hm_ args_ M_ snx_ K_ h_ ν_ largs_ H_ nx_ ha_ hM_
  unfold rvolS at h_
  split at h_
  · rename_i x_l
    obtain ⟨y1, r1, rfl, ⟨l1, rfl, ⟨v_l, r2, rfl, hx_l, rfl⟩⟩, rfl⟩ := ha_
    split at h_
    · rename_i l n_l q_l
      obtain ⟨e_l, h_⟩ := h_
      exact pure_got (rvol_pure (by omega) (lsArg_ok hM_ hx_l q_l e_l)) hM_ (v := .i .i64 _) rfl h_
    · exact h_.elim
  · exact h_.elim

theorem va_eq (i f v : Int) (l : Ll) (T : Al (SV (stdA fsh true))) (M : Al (SO (stdA fsh true))) (KK : Ex → List (SV (stdA fsh true)) → List (SO (stdA fsh true)) → List Ll → Prop) : sCode Try.prog (sCall Try.prog 30 (spOf sp0) noLoop 20) ⟨53, false, noLoop 53⟩ 30 (false :: [false, true, true]) (bodyAt Try.prog 53 [false, true, true]) (hdL (bodyAt Try.prog 53 [false, true, true]) T M 32 5 [(0, .yld 4), (8, .ls false 0 (Ll.len l)), (9, .i .i64 (Ll.len l))] [(0, .list 0 [.int .i64, .int .i64, .int .i64, .int .i64] false l)] [(3, .i .i64 f), (10, .i .i64 i)] [(2, .row 2 [.i .i64 v]), (4, .frm 20 [false, true, false, true, true, true] 16 (.c 3 (some (.p 2 0)) .l) false .normal)] [] [] []) (outL 5 (tsOf [3, 10] []) [2, 4] [] [] KK) =
  (cond (decide (i < (Ll.len l)))
 ((0 : Int) ≤ i ∧ (i < (Ll.len l) ∧ (i < (Ll.len l) ∧ (InK .i64 ((Ll.get l i 0) * (Ll.get l i 2)) ∧ (InK .i64 (f + ((Ll.get l i 0) * (Ll.get l i 2))) ∧ (InK .i64 (i + (1 : Int)) ∧ (KK .normal [(.i .i64 (f + ((Ll.get l i 0) * (Ll.get l i 2)))), (.i .i64 (i + (1 : Int)))] [(.row 2 [(.i .i64 (f + ((Ll.get l i 0) * (Ll.get l i 2))))]), (.frm 20 [false, true, false, true, true, true] 16 (.c 3 (some (.p 2 0)) .l) false .normal)] [])))))))
 (KK (.exit 0) [(.i .i64 f), (.i .i64 i)] [(.row 2 [(.i .i64 v)]), (.frm 20 [false, true, false, true, true, true] 16 (.c 3 (some (.p 2 0)) .l) false .normal)] [])) := by kernel_rfl
theorem va_go (l : Ll) (i : Int) (f : Int) (v : Int) (i_0 : Int) (f_0 : Int) (v_0 : Int) (r1 : i_0 = (0 : Int)) (r2 : f_0 = (0 : Int)) (r3 : v_0 = (0 : Int)) (T : Al (SV (stdA fsh true))) (M : Al (SO (stdA fsh true))) (KK : Ex → List (SV (stdA fsh true)) → List (SO (stdA fsh true)) → List Ll → Prop) (p1 : (holeE l) = (0 : Int)) (hI : 0 ≤ i ∧ i ≤ l.length ∧ f = volN l i.toNat ∧ v = volN l i.toNat) (hn : ∀ (i' : Int) (f' : Int) (v' : Int), 0 ≤ i' ∧ i' ≤ l.length ∧ f' = volN l i'.toNat ∧ v' = volN l i'.toNat → (20 - i').toNat < (20 - i).toNat → KK .normal [.i .i64 f', .i .i64 i'] [.row 2 [.i .i64 v'], .frm 20 [false, true, false, true, true, true] 16 (.c 3 (some (.p 2 0)) .l) false .normal] []) (hx1 : KK (.exit 0) [.i .i64 (volN l l.length), .i .i64 (Ll.len l)] [.row 2 [.i .i64 (volN l l.length)], .frm 20 [false, true, false, true, true, true] 16 (.c 3 (some (.p 2 0)) .l) false .normal] []) :
    sCode Try.prog (sCall Try.prog 30 (spOf sp0) noLoop 20) ⟨53, false, noLoop 53⟩ 30 (false :: [false, true, true]) (bodyAt Try.prog 53 [false, true, true]) (hdL (bodyAt Try.prog 53 [false, true, true]) T M 32 5 [(0, .yld 4), (8, .ls false 0 (Ll.len l)), (9, .i .i64 (Ll.len l))] [(0, .list 0 [.int .i64, .int .i64, .int .i64, .int .i64] false l)] [(3, .i .i64 f), (10, .i .i64 i)] [(2, .row 2 [.i .i64 v]), (4, .frm 20 [false, true, false, true, true, true] 16 (.c 3 (some (.p 2 0)) .l) false .normal)] [] [] []) (outL 5 (tsOf [3, 10] []) [2, 4] [] [] KK) := by
  refine Eq.mpr (va_eq i f v l T M KK) ?_
  simp only [cond_iff, InK64]
  obtain ⟨i0, i1, rfl, rfl⟩ := hI
  have hl : Ll.len l = (l.length : Int) := rfl
  have p0 : HoleOK l := hole_of p1
  have hlen := p0.len
  by_cases h : i < Ll.len l
  · have ha := p0.at i0 (by omega)
    have hb := p0.b (n := i.toNat) (by omega)
    have hm := mul_bd (show 0 ≤ Ll.get l i 0 by omega) ha.1.2 (show 0 ≤ Ll.get l i 2 by omega) ha.2.2.2.2.1
    have e := volN_succ (l := l) i0
    have hN := hn (i + 1) (volN l i.toNat + Ll.get l i 0 * Ll.get l i 2) (volN l i.toNat + Ll.get l i 0 * Ll.get l i 2) ⟨by omega, by omega, by rw [show (i + 1).toNat = i.toNat + 1 by omega, e], by rw [show (i + 1).toNat = i.toNat + 1 by omega, e]⟩ (by omega)
    generalize Ll.get l i 0 * Ll.get l i 2 = m at *
    repeat' (first | apply And.intro | intro _)
    all_goals first | trivial | omega | exact hN
  · obtain rfl : i = l.length := by omega
    repeat' (first | apply And.intro | intro _)
    all_goals first | trivial | omega | exact hx1
abbrev vaF {A : Go.Rx.Alg} : Code → Go.Rx.SS A → (Go.Rx.Ex → Go.Rx.SS A → A.R) → A.R := fun c_ s_ K_ => match s_.T.get 0, s_.T.get 8, s_.T.get 9, s_.H.get 0, s_.T.get 3, s_.T.get 10, s_.H.get 2, s_.H.get 4 with
  | some (.yld 4), some (.ls false 0 m1), some (.i .i64 m2), some (.list t3 k3 false l), some (.i .i64 f), some (.i .i64 i), some (.row t4 [.i .i64 v]), some (.frm f5 p5_ n5_ T5_ false .normal) => (match T5_.get 3 with
    | some (.p 2 0) => bif (((((((Nat.beq s_.N 32 && Nat.beq s_.nx 5) && Nat.beq t3 0) && decide (k3 = [.int .i64, .int .i64, .int .i64, .int .i64])) && Nat.beq t4 2) && Nat.beq f5 20) && Go.Rx.samePath p5_ [false, true, false, true, true, true]) && Nat.beq n5_ 16) then (A.need .eql m1 (A.len l) (A.need .eql m2 (A.len l) (A.need .eql (A.app 1 [l] []) (A.lit 0) (A.need .eql i (A.lit 0) (A.need .eql f (A.lit 0) (A.need .eql v (A.lit 0) (K_ (.exit 0) (Go.Rx.hdL c_ s_.T (Go.Rx.kills [] (s_.H.set 4 (some (.frm 20 [false, true, false, true, true, true] 16 (.c 3 (some (.p 2 0)) .l) false .normal)))) 32 5 [(0, .yld 4), (8, .ls false 0 (A.len l)), (9, .i .i64 (A.len l))] [(0, .list 0 [.int .i64, .int .i64, .int .i64, .int .i64] false l)] [(3, .i .i64 (A.app 8 [l] [])), (10, .i .i64 (A.len l))] [(2, .row 2 [.i .i64 (A.app 8 [l] [])]), (4, .frm 20 [false, true, false, true, true, true] 16 (.c 3 (some (.p 2 0)) .l) false .normal)] [] [] (Go.Rx.addW ([] ++ [2, 4]) s_.wr))))))))) else A.fail "frame of va"
    | _ => A.fail "slots of va")
  | _, _, _, _, _, _, _, _ => A.fail "va"
theorem vaF_ok {d : Nat} (hd : 100 ≤ d) : LoopOK (fs := fsh) (ov := true) Try.prog AW d 53 [false, true, true] false vaF := by
  intro m_ hm_ fn_ c0_ hfn_ hb_ c_ ro_ hro_ hc_ s_ K_ W_ ν_ S_ h_ hs_
  obtain rfl := body_of hfn_ hb_ hc_
  unfold vaF at h_
  split at h_
  · rename_i m1_0 m2_0 t3 k3 l_0 f_0_0 i_0_0 t4 v_0_0 f5 p5_ n5_ T5_ g0 g1 g2 g3 g4 g5 g6 g7
    split at h_
    rotate_left
    · exact h_.elim
    rename_i z0
    obtain ⟨m1, rfl⟩ : ∃ q : Int, q = m1_0 := ⟨m1_0, rfl⟩
    obtain ⟨m2, rfl⟩ : ∃ q : Int, q = m2_0 := ⟨m2_0, rfl⟩
    obtain ⟨l, rfl⟩ : ∃ q : Ll, q = l_0 := ⟨l_0, rfl⟩
    obtain ⟨f_0, rfl⟩ : ∃ q : Int, q = f_0_0 := ⟨f_0_0, rfl⟩
    obtain ⟨i_0, rfl⟩ : ∃ q : Int, q = i_0_0 := ⟨i_0_0, rfl⟩
    obtain ⟨v_0, rfl⟩ : ∃ q : Int, q = v_0_0 := ⟨v_0_0, rfl⟩
    obtain ⟨T_, FN_, M_, snx_, wr_⟩ := s_
    have hN : (((((((Nat.beq FN_ 32 && Nat.beq snx_ 5) && Nat.beq t3 0) && decide (k3 = [.int .i64, .int .i64, .int .i64, .int .i64])) && Nat.beq t4 2) && Nat.beq f5 20) && Go.Rx.samePath p5_ [false, true, false, true, true, true]) && Nat.beq n5_ 16) = true := by
      cases hq : ((((((((Nat.beq FN_ 32 && Nat.beq snx_ 5) && Nat.beq t3 0) && decide (k3 = [.int .i64, .int .i64, .int .i64, .int .i64])) && Nat.beq t4 2) && Nat.beq f5 20) && Go.Rx.samePath p5_ [false, true, false, true, true, true]) && Nat.beq n5_ 16) : Bool) with
      | true => rfl
      | false => (rw [hq] at h_; exact h_.elim)
    rw [hN, cond_true] at h_
    simp only [Bool.and_eq_true, beq_iff, decide_eq_true_eq] at hN
    obtain ⟨⟨⟨⟨⟨⟨⟨rfl, rfl⟩, rfl⟩, rfl⟩, rfl⟩, rfl⟩, hsp_⟩, rfl⟩ := hN
    obtain rfl := samePath_ok hsp_
    obtain ⟨q0, h_⟩ := h_
    obtain rfl : m1 = (Ll.len l) := q0
    obtain ⟨q0, h_⟩ := h_
    obtain rfl : m2 = (Ll.len l) := q0
    obtain ⟨q1, h_⟩ := h_
    have q1 : (holeE l) = (0 : Int) := q1
    obtain ⟨q2, h_⟩ := h_
    have q2 : i_0 = (0 : Int) := q2
    obtain ⟨q3, h_⟩ := h_
    have q3 : f_0 = (0 : Int) := q3
    obtain ⟨q4, h_⟩ := h_
    have q4 : v_0 = (0 : Int) := q4
    have hs2_ := sim_frm hs_ (kt := [(3, .p 2 0)]) g7 (fun x hx => by
      simp only [List.mem_cons, List.not_mem_nil, or_false] at hx
      rcases hx with rfl
      · exact z0)
    replace hs2_ : Sim W_ ν_ ⟨T_, 32, Al.set M_ 4 (some (.frm 20 [false, true, false, true, true, true] 16 (.c 3 (some (.p 2 0)) .l) false .normal)), 5, wr_⟩ S_ := hs2_
    refine GoC.know (s' := ⟨T_, 32, Al.set M_ 4 (some (.frm 20 [false, true, false, true, true, true] 16 (.c 3 (some (.p 2 0)) .l) false .normal)), 5, wr_⟩) ⟨rfl, rfl⟩ ?_
    have w3 := (Al.get_set_ne M_ (some (.frm 20 [false, true, false, true, true, true] 16 (.c 3 (some (.p 2 0)) .l) false .normal)) (show 0 ≠ 4 by decide)).trans g3
    have w6 := (Al.get_set_ne M_ (some (.frm 20 [false, true, false, true, true, true] 16 (.c 3 (some (.p 2 0)) .l) false .normal)) (show 2 ≠ 4 by decide)).trans g6
    have w7 : (Al.set M_ 4 (some (.frm 20 [false, true, false, true, true, true] 16 (.c 3 (some (.p 2 0)) .l) false .normal))).get 4 = some (.frm 20 [false, true, false, true, true, true] 16 (.c 3 (some (.p 2 0)) .l) false .normal) := Al.get_set_same _ _ _
    replace h_ : K_ (.exit 0) (hdL (bodyAt Try.prog 53 [false, true, true]) T_ (kills [] (Al.set M_ 4 (some (.frm 20 [false, true, false, true, true, true] 16 (.c 3 (some (.p 2 0)) .l) false .normal)))) 32 5 [(0, .yld 4), (8, .ls false 0 (Ll.len l)), (9, .i .i64 (Ll.len l))] [(0, .list 0 [.int .i64, .int .i64, .int .i64, .int .i64] false l)] [(3, .i .i64 (volN l l.length)), (10, .i .i64 (Ll.len l))] [(2, .row 2 [.i .i64 (volN l l.length)]), (4, .frm 20 [false, true, false, true, true, true] 16 (.c 3 (some (.p 2 0)) .l) false .normal)] [] [] (addW ([] ++ [2, 4]) wr_)) := h_
    obtain ⟨M2_, hM2_⟩ : ∃ M2_, M2_ = (Al.set M_ 4 (some (.frm 20 [false, true, false, true, true, true] 16 (.c 3 (some (.p 2 0)) .l) false .normal))) := ⟨_, rfl⟩
    rw [← hM2_] at h_ hs2_ w3 w6 w7 ⊢
    have hx1 : K_ (.exit 0) (hdL (bodyAt Try.prog 53 [false, true, true]) T_ (kills [] M2_) 32 5 [(0, .yld 4), (8, .ls false 0 (Ll.len l)), (9, .i .i64 (Ll.len l))] [(0, .list 0 [.int .i64, .int .i64, .int .i64, .int .i64] false l)] [(3, .i .i64 (volN l l.length)), (10, .i .i64 (Ll.len l))] [(2, .row 2 [.i .i64 (volN l l.length)]), (4, .frm 20 [false, true, false, true, true, true] 16 (.c 3 (some (.p 2 0)) .l) false .normal)] [] [] (addW ([] ++ [2, 4]) wr_)) := by
      have h2 := h_
      exact h2
    refine loop_ruleL (fs := fsh) (ov := true) (s := ⟨T_, 32, M2_, 5, wr_⟩) (X := Int × Int × Int) (B := [2, 4]) (mv := []) (kt := [(0, .yld 4), (8, .ls false 0 (Ll.len l)), (9, .i .i64 (Ll.len l))]) (kr := [(0, .list 0 [.int .i64, .int .i64, .int .i64, .int .i64] false l)]) (ty := []) (x := (i_0, f_0, v_0))
      (Inv := (fun x_ : Int × Int × Int => match x_ with | (i, f, v) => 0 ≤ i ∧ i ≤ l.length ∧ f = volN l i.toNat ∧ v = volN l i.toNat)) (μ := (fun x_ : Int × Int × Int => match x_ with | (i, f, v) => (20 - i).toNat)) (ts := tsOf [3, 10] []) (sl := (fun x_ : Int × Int × Int => match x_ with | (i, f, v) => [.i .i64 f, .i .i64 i])) (bl := (fun x_ : Int × Int × Int => match x_ with | (i, f, v) => [.row 2 [.i .i64 v], .frm 20 [false, true, false, true, true, true] 16 (.c 3 (some (.p 2 0)) .l) false .normal])) (ll := (fun x_ : Int × Int × Int => match x_ with | (i, f, v) => [])) (Q := fun e_ vs_ os_ hs2_ => K_ e_ (hdL (bodyAt Try.prog 53 [false, true, true]) T_ (kills [] M2_) 32 5 [(0, .yld 4), (8, .ls false 0 (Ll.len l)), (9, .i .i64 (Ll.len l))] [(0, .list 0 [.int .i64, .int .i64, .int .i64, .int .i64] false l)] (((tsOf [3, 10] []) e_).zip vs_) ([2, 4].zip os_) [] hs2_ (addW ([] ++ [2, 4]) wr_)))
      (L := LL) (U := 30) (cs := sCall Try.prog 30 (spOf sp0) noLoop 20) (call := CN Try.prog AW m_) (lp := ⟨53, false, noLoop 53⟩) (root := c0_) (p := [false, true, true])
      (show CallSOK _ _ from by
        have := sCall_ok (P := Try.prog) (d := m_ - 20) (U := 30) (lp := noLoop) (sp0_ok (fs := fsh) (ov := true) (d := m_ - 20)) (sp0_aw (fs := fsh) (ov := true)) (noLoop_ok) (by decide) rfl 20
        rwa [show 20 + (m_ - 20) = m_ by omega] at this) (ctx_of (g := 53) (rg := false) (at_ := noLoop 53) (fun p rg f h => by cases h) hfn_ hb_ hro_) (by decide) hc_
      (by
        rintro ⟨i, f, v⟩ o ho
        simp only [List.mem_cons, List.not_mem_nil, or_false] at ho
        rcases ho with rfl | rfl
        · rfl
        · rfl)
      (fun x hx => by
        simp only [List.mem_cons, List.not_mem_nil, or_false] at hx
        rcases hx with rfl | rfl
        · exact ⟨_, w6, rfl⟩
        · exact ⟨_, w7, rfl⟩) (fun x hx => by cases hx) (fun x hx => by
        simp only [List.mem_cons, List.not_mem_nil, or_false] at hx
        rcases hx with rfl | rfl
        · simp
        · simp)
      (fun x hx => by
        simp only [List.mem_cons, List.not_mem_nil, or_false] at hx
        rcases hx with rfl | rfl | rfl
        · exact g0
        · exact g1
        · exact g2) (fun x hx => by
        simp only [List.mem_cons, List.not_mem_nil, or_false] at hx
        rcases hx with rfl
        · exact ⟨w3, by simp⟩) ?_ (fun _ _ _ _ _ h => h) ?_ ?_ ?_ hs2_
    · rintro ⟨i, f, v⟩ hI
      exact va_go l i f v i_0 f_0 v_0 q2 q3 q4 T_ (kills [] M2_) _ q1 hI (fun i' f' v' ha hb => ⟨(i', f', v'), ha, hb, rfl, rfl, rfl⟩) (⟨by simp [SO.mine], hx1⟩)
    · show 0 ≤ i_0 ∧ i_0 ≤ l.length ∧ f_0 = volN l i_0.toNat ∧ v_0 = volN l i_0.toNat
      have p0 := hole_of q1
      exact ⟨by omega, by omega, by rw [q2, q3]; rfl, by rw [q2, q4]; rfl⟩
    · show (20 - i_0).toNat < LL
      exact Nat.lt_of_le_of_lt (show _ ≤ 1000 by omega) (by decide)
    · exact ⟨⟨[.i .i64 f_0, .i .i64 i_0], [.row 2 [.i .i64 v_0], .frm 20 [false, true, false, true, true, true] 16 (.c 3 (some (.p 2 0)) .l) false .normal], [], [], by simp [gets, tsOf, g0, g1, g2, w3, g4, g5, w6, w7], by simp [gets, g0, g1, g2, w3, g4, g5, w6, w7], rfl, rfl, by simp [listsOf] <;> rfl⟩⟩
  · exact h_.elim
abbrev lpV {A : Go.Rx.Alg} : Nat → Go.Rx.LoopS A := Go.Rx.lpOf [(53, [false, true, true], false, vaF)]
theorem lpV_ok {d : Nat} (hd : 100 ≤ d) : LoopsAll (fs := fsh) (ov := true) Try.prog AW d lpV := lpOf_ok fun x hx => by
  simp only [List.mem_cons, List.not_mem_nil, or_false] at hx
  rcases hx with rfl
  · exact vaF_ok (by omega)
theorem vol_eq (l : Ll) (KK : KS (stdA fsh true)) : sFunc Try.prog 30 (sCall Try.prog 30 (spOf spA) lpV 20) lpV 20 [.agg [.ls false 0 (Ll.len l)]] (lsMem 0 [([.int .i64, .int .i64, .int .i64, .int .i64], l)]) 1 KK =
  ((Ll.len l) = (Ll.len l) ∧ (cond (decide ((holeE l) ≠ (0 : Int)))
 (KK (.i .i64 (0 : Int)) (lsMem 0 [([.int .i64, .int .i64, .int .i64, .int .i64], l)]) 1 [])
 ((Ll.len l) = (Ll.len l) ∧ ((Ll.len l) = (Ll.len l) ∧ ((holeE l) = (0 : Int) ∧ ((0 : Int) = (0 : Int) ∧ ((0 : Int) = (0 : Int) ∧ ((0 : Int) = (0 : Int) ∧ (KK (.i .i64 (volN l l.length)) (lsMem 0 [([.int .i64, .int .i64, .int .i64, .int .i64], l)]) 1 []))))))))) := by kernel_rfl
theorem vol_pure {m : Nat} (hm : 300 ≤ m) {H : Hp} {nx : Nat} {v_l : LV} {l : Ll} (hl_l : IsL H nx [.int .i64, .int .i64, .int .i64, .int .i64] l v_l) : Pure Try.prog AW m 20 [.agg [v_l]] H nx (.i .i64 (holeV l)) := by
  obtain ⟨ν, n1, n2, n3, n4⟩ := ls_in (fs := fsh) (ov := true) (l := [([.int .i64, .int .i64, .int .i64, .int .i64], l)]) (lvs := [v_l]) 0 (fun i x lv e1 e2 => by
    cases i with
    | zero => simp at e1 e2; subst e1 e2; exact hl_l
    | succ i =>
      simp at e1) rfl
  refine pure_of (n := 20) (d := m - 21) (U := 30) (fs := fsh) (ov := true) (spA_ok (by omega)) spA_aw (lpV_ok (by omega)) (by decide) (by decide) (by omega) (args := [.agg [.ls false 0 (Ll.len l)]]) (M := lsMem 0 [([.int .i64, .int .i64, .int .i64, .int .i64], l)]) (snx := 1) ?_ (VSL.cons ⟨_, rfl, (VSL.cons (n4 0 _ _ rfl rfl) rfl)⟩ rfl) (hs_in n2 n3)
  rw [vol_eq]
  simp only [cond_iff, InK64]
  have hl : Ll.len l = (l.length : Int) := rfl
  have c0 : holeV l = if holeE l = 0 then volN l l.length else 0 := rfl
  repeat' (first | apply And.intro | intro _)
  all_goals first
    | trivial
    | omega
    | (refine end_i ?_; show _ = holeV l; rw [c0]; split
       all_goals first | rfl | omega | contradiction)
abbrev volS {A : Go.Rx.Alg} : List (Go.Rx.SV A) → Go.Rx.SH A → Nat → Go.Rx.KS A → A.R := fun args_ M_ snx_ K_ => match args_ with
  | [.agg [x_l]] => (match Go.Rx.lsArg M_ [.int .i64, .int .i64, .int .i64, .int .i64] x_l with | some (l, n_l) => (A.need .eql n_l (A.len l) (K_ (.i .i64 (A.app 2 [l] [])) M_ snx_ [])) | none => A.fail "vol")
  | _ => A.fail "vol"
theorem volS_ok {ov : Bool} {d : Nat} (hd : 300 ≤ d) : SpecOK (fs := fsh) (ov := ov) Try.prog AW d 20 volS := by
  intro m_ hm_ args_ M_ snx_ K_ h_ ν_ largs_ H_ nx_ ha_ hM_
  unfold volS at h_
  split at h_
  · rename_i x_l
    obtain ⟨y1, r1, rfl, ⟨l1, rfl, ⟨v_l, r2, rfl, hx_l, rfl⟩⟩, rfl⟩ := ha_
    split at h_
    · rename_i l n_l q_l
      obtain ⟨e_l, h_⟩ := h_
      exact pure_got (vol_pure (by omega) (lsArg_ok hM_ hx_l q_l e_l)) hM_ (v := .i .i64 _) rfl h_
    · exact h_.elim
  · exact h_.elim

end Go.Proofs.Ytfjilbjofaommaa
