/-
  Layer 2: the least and the greatest values, the reference's side.
-/
import Derived.Test.YtjemcdjigeijbaaVd
set_option linter.unusedSimpArgs false
set_option linter.unusedVariables false
set_option maxRecDepth 100000
namespace Go.Proofs.Ytjemcdjigeijbaa
open Go Go.Rx

theorem inn_eq (f t i : Int) (l g : Ll) (T : Al (SV (stdA fsv true))) (M : Al (SO (stdA fsv true))) (KK : Ex → List (SV (stdA fsv true)) → List (SO (stdA fsv true)) → List Ll → Prop) : sCode Try.prog (sCall Try.prog 30 (spOf sp0) noLoop 20) (noLoop 30) 30 (false :: [false, true, false, true, true]) (bodyAt Try.prog 30 [false, true, false, true, true]) (hdL (bodyAt Try.prog 30 [false, true, false, true, true]) T M 47 6 [(3, .p 4 0), (1, .i .i64 f), (2, .i .i64 t)] [(0, .list 0 [.int .i64, .int .i64] false l), (4, .row 24 [.ls false 0 (Ll.len l)]), (5, .row 2 [.i .i64 f, .i .i64 t])] [(8, .i .i64 i), (7, .ls true 6 (Ll.len g))] [] [(2, [.int .i64])] [g] []) (outL 6 (tsOf [8, 7] []) [] [] [(2, [.int .i64])] KK) =
  (cond (decide (i < (Ll.len l)))
 ((0 : Int) ≤ i ∧ (i < (Ll.len l) ∧ (i < (Ll.len l) ∧ (cond (decide ((Ll.get l i 0) > f))
 ((0 : Int) ≤ i ∧ (i < (Ll.len l) ∧ (i < (Ll.len l) ∧ (cond (decide ((Ll.get l i 0) < t))
 ((0 : Int) ≤ i ∧ (i < (Ll.len l) ∧ (i < (Ll.len l) ∧ ((Ll.len g) = (Ll.len g) ∧ ((Ll.len (g ++ [[(Ll.get l i 0)]])) ≤ (1000000 : Int) ∧ (InK .i64 (i + (1 : Int)) ∧ (KK .normal [(.i .i64 (i + (1 : Int))), (.ls true 6 (Ll.len (g ++ [[(Ll.get l i 0)]])))] [] [(g ++ [[(Ll.get l i 0)]])])))))))
 (InK .i64 (i + (1 : Int)) ∧ (KK .normal [(.i .i64 (i + (1 : Int))), (.ls true 6 (Ll.len g))] [] [g]))))))
 (InK .i64 (i + (1 : Int)) ∧ (KK .normal [(.i .i64 (i + (1 : Int))), (.ls true 6 (Ll.len g))] [] [g]))))))
 (KK (.exit 0) [(.i .i64 i), (.ls true 6 (Ll.len g))] [] [g])) := by kernel_rfl
theorem inn_go (f : Int) (t : Int) (l : Ll) (i : Int) (g : Ll) (i_0 : Int) (r1 : i_0 = (0 : Int)) (T : Al (SV (stdA fsv true))) (M : Al (SO (stdA fsv true))) (KK : Ex → List (SV (stdA fsv true)) → List (SO (stdA fsv true)) → List Ll → Prop) (p1 : (Ll.len l) ≤ (24 : Int)) (hI : 0 ≤ i ∧ i ≤ Ll.len l ∧ g = inPl l f t i.toNat ∧ anyI l f t < i) (hn : ∀ (i' : Int) (g' : Ll), 0 ≤ i' ∧ i' ≤ Ll.len l ∧ g' = inPl l f t i'.toNat ∧ anyI l f t < i' → (24 - i').toNat < (24 - i).toNat → KK .normal [.i .i64 i', .ls true 6 (Ll.len g')] [] [g']) (hx1 : (decide (anyI l f t < l.length)) = true → KK (.exit 0) [.i .i64 (Ll.len l), .ls true 6 (Ll.len (inPl l f t l.length))] [] [(inPl l f t l.length)]) (hx2 : (decide (anyI l f t < l.length)) = false → KK (.exit 0) [.i .i64 (Ll.len l), .sl 5 0 2 2] [] [([] : Ll)]) :
    sCode Try.prog (sCall Try.prog 30 (spOf sp0) noLoop 20) (noLoop 30) 30 (false :: [false, true, false, true, true]) (bodyAt Try.prog 30 [false, true, false, true, true]) (hdL (bodyAt Try.prog 30 [false, true, false, true, true]) T M 47 6 [(3, .p 4 0), (1, .i .i64 f), (2, .i .i64 t)] [(0, .list 0 [.int .i64, .int .i64] false l), (4, .row 24 [.ls false 0 (Ll.len l)]), (5, .row 2 [.i .i64 f, .i .i64 t])] [(8, .i .i64 i), (7, .ls true 6 (Ll.len g))] [] [(2, [.int .i64])] [g] []) (outL 6 (tsOf [8, 7] []) [] [] [(2, [.int .i64])] KK) := by
  refine Eq.mpr (inn_eq f t i l g T M KK) ?_
  have hl : Ll.len l = (l.length : Int) := rfl
  obtain ⟨i0, i1, rfl, i2⟩ := hI
  have hg := inPl_len (l := l) (f := f) (t := t) i.toNat
  by_cases h : i < Ll.len l
  · have s0 := inPl_succ l f t i0
    have hn' := hn (i + 1) _ ⟨by omega, by omega, rfl, by omega⟩ (by omega)
    rw [s0] at hn'
    have e : insB l f t i = decide (f < Ll.get l i 0 ∧ Ll.get l i 0 < t) := rfl
    rw [e] at hn'
    have e3 : Ll.len (inPl l f t i.toNat ++ [[Ll.get l i 0]]) ≤ 1000000 := by
      show ((List.length _ : Nat) : Int) ≤ 1000000
      simp only [List.length_append, List.length_cons, List.length_nil]
      omega
    rw [decide_eq_true h]
    clear hn hx1 hx2 s0
    by_cases hb : f < Ll.get l i 0 ∧ Ll.get l i 0 < t
    · rw [decide_eq_true hb, if_pos rfl] at hn'
      rw [show decide (Ll.get l i 0 > f) = true from decide_eq_true hb.1, decide_eq_true hb.2]
      repeat' (first | exact hn' | apply And.intro)
      all_goals first | trivial | omega | (rw [InK64]; omega)
    · rw [decide_eq_false hb, if_neg (by simp)] at hn'
      have hb2 : decide (Ll.get l i 0 > f) = false ∨ (decide (Ll.get l i 0 > f) = true ∧ decide (Ll.get l i 0 < t) = false) := by
        by_cases h1 : f < Ll.get l i 0
        · exact .inr ⟨decide_eq_true h1, decide_eq_false fun h2 => hb ⟨h1, h2⟩⟩
        · exact .inl (decide_eq_false h1)
      rcases hb2 with h1 | ⟨h1, h2⟩
      · rw [h1]
        repeat' (first | exact hn' | apply And.intro)
        all_goals first | trivial | omega | (rw [InK64]; omega)
      · rw [h1, h2]
        repeat' (first | exact hn' | apply And.intro)
        all_goals first | trivial | omega | (rw [InK64]; omega)
  · rw [decide_eq_false h]
    obtain rfl : i = Ll.len l := by omega
    repeat' (first | exact hx1 (decide_eq_true (by omega)) | apply And.intro)
    all_goals first | trivial | omega
theorem inn0_eq (f t i : Int) (l : Ll) (T : Al (SV (stdA fsv true))) (M : Al (SO (stdA fsv true))) (KK : Ex → List (SV (stdA fsv true)) → List (SO (stdA fsv true)) → List Ll → Prop) : sCode Try.prog (sCall Try.prog 30 (spOf sp0) noLoop 20) (noLoop 30) 30 (false :: [false, true, false, true, true]) (bodyAt Try.prog 30 [false, true, false, true, true]) (hdL (bodyAt Try.prog 30 [false, true, false, true, true]) T M 47 6 [(3, .p 4 0), (1, .i .i64 f), (2, .i .i64 t)] [(0, .list 0 [.int .i64, .int .i64] false l), (4, .row 24 [.ls false 0 (Ll.len l)]), (5, .row 2 [.i .i64 f, .i .i64 t])] [(8, .i .i64 i), (7, .sl 5 0 2 2)] [] [(2, [.int .i64])] [([] : Ll)] []) (outL 6 (tsOf [8, 7] []) [] [] [(2, [.int .i64])] KK) =
  (cond (decide (i < (Ll.len l)))
 ((0 : Int) ≤ i ∧ (i < (Ll.len l) ∧ (i < (Ll.len l) ∧ (cond (decide ((Ll.get l i 0) > f))
 ((0 : Int) ≤ i ∧ (i < (Ll.len l) ∧ (i < (Ll.len l) ∧ (cond (decide ((Ll.get l i 0) < t))
 ((0 : Int) ≤ i ∧ (i < (Ll.len l) ∧ (i < (Ll.len l) ∧ ((Ll.len (([[f]] ++ [[t]]) ++ [[(Ll.get l i 0)]])) ≤ (1000000 : Int) ∧ (InK .i64 (i + (1 : Int)) ∧ (KK .normal [(.i .i64 (i + (1 : Int))), (.ls true 6 (Ll.len (([[f]] ++ [[t]]) ++ [[(Ll.get l i 0)]])))] [] [(([[f]] ++ [[t]]) ++ [[(Ll.get l i 0)]])]))))))
 (InK .i64 (i + (1 : Int)) ∧ (KK .normal [(.i .i64 (i + (1 : Int))), (.sl 5 0 2 2)] [] [[]]))))))
 (InK .i64 (i + (1 : Int)) ∧ (KK .normal [(.i .i64 (i + (1 : Int))), (.sl 5 0 2 2)] [] [[]]))))))
 (KK (.exit 0) [(.i .i64 i), (.sl 5 0 2 2)] [] [[]])) := by kernel_rfl
theorem inn_go0 (f : Int) (t : Int) (l : Ll) (i : Int) (i_0 : Int) (r1 : i_0 = (0 : Int)) (T : Al (SV (stdA fsv true))) (M : Al (SO (stdA fsv true))) (KK : Ex → List (SV (stdA fsv true)) → List (SO (stdA fsv true)) → List Ll → Prop) (p1 : (Ll.len l) ≤ (24 : Int)) (hI : 0 ≤ i ∧ i ≤ Ll.len l ∧ i ≤ anyI l f t) (hn : ∀ (i' : Int) (g' : Ll), 0 ≤ i' ∧ i' ≤ Ll.len l ∧ g' = inPl l f t i'.toNat ∧ anyI l f t < i' → (24 - i').toNat < (24 - i).toNat → KK .normal [.i .i64 i', .ls true 6 (Ll.len g')] [] [g']) (hn0 : ∀ (i' : Int), 0 ≤ i' ∧ i' ≤ Ll.len l ∧ i' ≤ anyI l f t → (24 - i').toNat < (24 - i).toNat → KK .normal [.i .i64 i', .sl 5 0 2 2] [] [[]]) (hx1 : (decide (anyI l f t < l.length)) = true → KK (.exit 0) [.i .i64 (Ll.len l), .ls true 6 (Ll.len (inPl l f t l.length))] [] [(inPl l f t l.length)]) (hx2 : (decide (anyI l f t < l.length)) = false → KK (.exit 0) [.i .i64 (Ll.len l), .sl 5 0 2 2] [] [([] : Ll)]) :
    sCode Try.prog (sCall Try.prog 30 (spOf sp0) noLoop 20) (noLoop 30) 30 (false :: [false, true, false, true, true]) (bodyAt Try.prog 30 [false, true, false, true, true]) (hdL (bodyAt Try.prog 30 [false, true, false, true, true]) T M 47 6 [(3, .p 4 0), (1, .i .i64 f), (2, .i .i64 t)] [(0, .list 0 [.int .i64, .int .i64] false l), (4, .row 24 [.ls false 0 (Ll.len l)]), (5, .row 2 [.i .i64 f, .i .i64 t])] [(8, .i .i64 i), (7, .sl 5 0 2 2)] [] [(2, [.int .i64])] [[]] []) (outL 6 (tsOf [8, 7] []) [] [] [(2, [.int .i64])] KK) := by
  refine Eq.mpr (inn0_eq f t i l T M KK) ?_
  have hl : Ll.len l = (l.length : Int) := rfl
  obtain ⟨i0, i1, i2⟩ := hI
  by_cases h : i < Ll.len l
  · have hs := leastN_step (p := insB l f t) (k := l.length) i0 i2 (by omega)
    have hz : inPl l f t i.toNat = [[f], [t]] := inPl_none fun j a b => (leastN_spec (insB l f t) l.length 0).2.2.1 j a (by unfold anyI at i2; omega)
    have e : insB l f t i = decide (f < Ll.get l i 0 ∧ Ll.get l i 0 < t) := rfl
    rw [e] at hs
    have s0 := inPl_succ l f t i0
    rw [e, hz] at s0
    rw [decide_eq_true h]
    clear hx1 hx2
    by_cases hb : f < Ll.get l i 0 ∧ Ll.get l i 0 < t
    · rw [decide_eq_true hb, if_pos rfl] at s0
      have hn' := hn (i + 1) _ ⟨by omega, by omega, rfl, by have := hs.1 (decide_eq_true hb); unfold anyI; omega⟩ (by omega)
      rw [s0] at hn'
      have e3 : Ll.len ([[f]] ++ [[t]] ++ [[Ll.get l i 0]]) ≤ 1000000 := by show ((3 : Nat) : Int) ≤ 1000000; omega
      have e4 : InK .i64 (i + 1) := by rw [InK64]; omega
      rw [show decide (Ll.get l i 0 > f) = true from decide_eq_true hb.1, decide_eq_true hb.2]
      exact And.intro i0 (And.intro h (And.intro h (And.intro i0 (And.intro h (And.intro h (And.intro i0 (And.intro h (And.intro h (And.intro e3 (And.intro e4 hn'))))))))))
    · have hn' := hn0 (i + 1) ⟨by omega, by omega, hs.2 (decide_eq_false hb)⟩ (by omega)
      have hb2 : decide (Ll.get l i 0 > f) = false ∨ (decide (Ll.get l i 0 > f) = true ∧ decide (Ll.get l i 0 < t) = false) := by
        by_cases h1 : f < Ll.get l i 0
        · exact .inr ⟨decide_eq_true h1, decide_eq_false fun h2 => hb ⟨h1, h2⟩⟩
        · exact .inl (decide_eq_false h1)
      rcases hb2 with h1 | ⟨h1, h2⟩
      · rw [h1]
        repeat' (first | exact hn' | apply And.intro)
        all_goals first | trivial | omega | (rw [InK64]; omega)
      · rw [h1, h2]
        repeat' (first | exact hn' | apply And.intro)
        all_goals first | trivial | omega | (rw [InK64]; omega)
  · rw [decide_eq_false h]
    obtain rfl : i = Ll.len l := by omega
    repeat' (first | exact hx2 (decide_eq_false (by omega)) | apply And.intro)
    all_goals first | trivial | omega
abbrev innF {A : Go.Rx.Alg} : Code → Go.Rx.SS A → (Go.Rx.Ex → Go.Rx.SS A → A.R) → A.R := fun c_ s_ K_ => match s_.T.get 3, s_.T.get 1, s_.T.get 2, s_.H.get 0, s_.H.get 4, s_.H.get 5, s_.T.get 8, s_.T.get 7 with
  | some (.p 4 0), some (.i .i64 f), some (.i .i64 t), some (.list t1 k1 false l), some (.row t2 [.ls false 0 m3]), some (.row t4 [.i .i64 m5, .i .i64 m6]), some (.i .i64 i), some (.sl 5 0 2 2) => bif (((((Nat.beq s_.N 47 && Nat.beq s_.nx 6) && Nat.beq t1 0) && decide (k1 = [.int .i64, .int .i64])) && Nat.beq t2 24) && Nat.beq t4 2) then (A.need .eql m3 (A.len l) (A.need .eql m5 f (A.need .eql m6 t (A.need .eql i (A.lit 0) (A.need .leq (A.len l) (A.lit 24) ((A.br (A.appB 39 [l] [f, t]) (fun _ => K_ (.exit 0) (Go.Rx.hdL c_ s_.T (Go.Rx.kills [] s_.H) 47 6 [(3, .p 4 0), (1, .i .i64 f), (2, .i .i64 t)] [(0, .list 0 [.int .i64, .int .i64] false l), (4, .row 24 [.ls false 0 (A.len l)]), (5, .row 2 [.i .i64 f, .i .i64 t])] [(8, .i .i64 (A.len l)), (7, .ls true 6 (A.len (A.appL 50 [l] [f, t])))] [] [(2, [.int .i64])] [(A.appL 50 [l] [f, t])] (Go.Rx.addW ([] ++ []) s_.wr))) (fun _ => K_ (.exit 0) (Go.Rx.hdL c_ s_.T (Go.Rx.kills [] s_.H) 47 6 [(3, .p 4 0), (1, .i .i64 f), (2, .i .i64 t)] [(0, .list 0 [.int .i64, .int .i64] false l), (4, .row 24 [.ls false 0 (A.len l)]), (5, .row 2 [.i .i64 f, .i .i64 t])] [(8, .i .i64 (A.len l)), (7, .sl 5 0 2 2)] [] [(2, [.int .i64])] [(A.nil)] (Go.Rx.addW ([] ++ []) s_.wr)))))))))) else A.fail "frame of inn"
  | _, _, _, _, _, _, _, _ => A.fail "inn"
theorem innF_ok {d : Nat} (hd : 100 ≤ d) : LoopOK (fs := fsv) (ov := true) Try.prog AW d 30 [false, true, false, true, true] innF := by
  intro m_ hm_ fn_ c0_ hfn_ hb_ c_ ro_ hc_ s_ K_ W_ ν_ S_ h_ hs_
  obtain rfl := body_of hfn_ hb_ hc_
  unfold innF at h_
  split at h_
  · rename_i f_0 t_0 t1 k1 l_0 t2 m3_0 t4 m5_0 m6_0 i_0_0 g0 g1 g2 g3 g4 g5 g6 g7
    obtain ⟨f, rfl⟩ : ∃ q : Int, q = f_0 := ⟨f_0, rfl⟩
    obtain ⟨t, rfl⟩ : ∃ q : Int, q = t_0 := ⟨t_0, rfl⟩
    obtain ⟨l, rfl⟩ : ∃ q : Ll, q = l_0 := ⟨l_0, rfl⟩
    obtain ⟨m3, rfl⟩ : ∃ q : Int, q = m3_0 := ⟨m3_0, rfl⟩
    obtain ⟨m5, rfl⟩ : ∃ q : Int, q = m5_0 := ⟨m5_0, rfl⟩
    obtain ⟨m6, rfl⟩ : ∃ q : Int, q = m6_0 := ⟨m6_0, rfl⟩
    obtain ⟨i_0, rfl⟩ : ∃ q : Int, q = i_0_0 := ⟨i_0_0, rfl⟩
    obtain ⟨T_, FN_, M_, snx_, wr_⟩ := s_
    have hN : (((((Nat.beq FN_ 47 && Nat.beq snx_ 6) && Nat.beq t1 0) && decide (k1 = [.int .i64, .int .i64])) && Nat.beq t2 24) && Nat.beq t4 2) = true := by
      cases hq : ((((((Nat.beq FN_ 47 && Nat.beq snx_ 6) && Nat.beq t1 0) && decide (k1 = [.int .i64, .int .i64])) && Nat.beq t2 24) && Nat.beq t4 2) : Bool) with
      | true => rfl
      | false => (rw [hq] at h_; exact h_.elim)
    rw [hN, cond_true] at h_
    simp only [Bool.and_eq_true, beq_iff, decide_eq_true_eq] at hN
    obtain ⟨⟨⟨⟨⟨rfl, rfl⟩, rfl⟩, rfl⟩, rfl⟩, rfl⟩ := hN
    obtain ⟨q0, h_⟩ := h_
    obtain rfl : m3 = (Ll.len l) := q0
    obtain ⟨q0, h_⟩ := h_
    obtain rfl : f = m5 := (show m5 = f from q0).symm
    obtain ⟨q0, h_⟩ := h_
    obtain rfl : t = m6 := (show m6 = t from q0).symm
    obtain ⟨q1, h_⟩ := h_
    have q1 : i_0 = (0 : Int) := q1
    obtain ⟨q2, h_⟩ := h_
    have q2 : (Ll.len l) ≤ (24 : Int) := q2
    replace h_ : cond (decide (anyI l f t < l.length)) (K_ (.exit 0) (hdL (bodyAt Try.prog 30 [false, true, false, true, true]) T_ (kills [] M_) 47 6 [(3, .p 4 0), (1, .i .i64 f), (2, .i .i64 t)] [(0, .list 0 [.int .i64, .int .i64] false l), (4, .row 24 [.ls false 0 (Ll.len l)]), (5, .row 2 [.i .i64 f, .i .i64 t])] [(8, .i .i64 (Ll.len l)), (7, .ls true 6 (Ll.len (inPl l f t l.length)))] [] [(2, [.int .i64])] [(inPl l f t l.length)] (addW ([] ++ []) wr_))) (K_ (.exit 0) (hdL (bodyAt Try.prog 30 [false, true, false, true, true]) T_ (kills [] M_) 47 6 [(3, .p 4 0), (1, .i .i64 f), (2, .i .i64 t)] [(0, .list 0 [.int .i64, .int .i64] false l), (4, .row 24 [.ls false 0 (Ll.len l)]), (5, .row 2 [.i .i64 f, .i .i64 t])] [(8, .i .i64 (Ll.len l)), (7, .sl 5 0 2 2)] [] [(2, [.int .i64])] [([] : Ll)] (addW ([] ++ []) wr_))) := h_
    have hx1 : (decide (anyI l f t < l.length)) = true → K_ (.exit 0) (hdL (bodyAt Try.prog 30 [false, true, false, true, true]) T_ (kills [] M_) 47 6 [(3, .p 4 0), (1, .i .i64 f), (2, .i .i64 t)] [(0, .list 0 [.int .i64, .int .i64] false l), (4, .row 24 [.ls false 0 (Ll.len l)]), (5, .row 2 [.i .i64 f, .i .i64 t])] [(8, .i .i64 (Ll.len l)), (7, .ls true 6 (Ll.len (inPl l f t l.length)))] [] [(2, [.int .i64])] [(inPl l f t l.length)] (addW ([] ++ []) wr_)) := fun e1 => by
      have h2 := h_
      rw [e1] at h2; simp only [cond_true, cond_false] at h2; exact h2
    have hx2 : (decide (anyI l f t < l.length)) = false → K_ (.exit 0) (hdL (bodyAt Try.prog 30 [false, true, false, true, true]) T_ (kills [] M_) 47 6 [(3, .p 4 0), (1, .i .i64 f), (2, .i .i64 t)] [(0, .list 0 [.int .i64, .int .i64] false l), (4, .row 24 [.ls false 0 (Ll.len l)]), (5, .row 2 [.i .i64 f, .i .i64 t])] [(8, .i .i64 (Ll.len l)), (7, .sl 5 0 2 2)] [] [(2, [.int .i64])] [([] : Ll)] (addW ([] ++ []) wr_)) := fun e1 => by
      have h2 := h_
      rw [e1] at h2; simp only [cond_true, cond_false] at h2; exact h2
    refine loop_ruleL (fs := fsv) (ov := true) (s := ⟨T_, 47, M_, 6, wr_⟩) (X := Int × Option Ll) (B := []) (mv := []) (kt := [(3, .p 4 0), (1, .i .i64 f), (2, .i .i64 t)]) (kr := [(0, .list 0 [.int .i64, .int .i64] false l), (4, .row 24 [.ls false 0 (Ll.len l)]), (5, .row 2 [.i .i64 f, .i .i64 t])]) (ty := [(2, [.int .i64])]) (x := (i_0, none))
      (Inv := (fun x_ : Int × Option Ll => match x_ with | (i, g) => (match g with | some g => 0 ≤ i ∧ i ≤ Ll.len l ∧ g = inPl l f t i.toNat ∧ anyI l f t < i | none => 0 ≤ i ∧ i ≤ Ll.len l ∧ i ≤ anyI l f t))) (μ := (fun x_ : Int × Option Ll => match x_ with | (i, g) => (24 - i).toNat)) (ts := tsOf [8, 7] []) (sl := (fun x_ : Int × Option Ll => match x_ with | (i, g) => (match g with | some g => [.i .i64 i, .ls true 6 (Ll.len g)] | none => [.i .i64 i, .sl 5 0 2 2]))) (bl := (fun x_ : Int × Option Ll => match x_ with | (i, g) => (match g with | some g => [] | none => []))) (ll := (fun x_ : Int × Option Ll => match x_ with | (i, g) => (match g with | some g => [g] | none => [[]]))) (Q := fun e_ vs_ os_ hs_ => K_ e_ (hdL (bodyAt Try.prog 30 [false, true, false, true, true]) T_ (kills [] M_) 47 6 [(3, .p 4 0), (1, .i .i64 f), (2, .i .i64 t)] [(0, .list 0 [.int .i64, .int .i64] false l), (4, .row 24 [.ls false 0 (Ll.len l)]), (5, .row 2 [.i .i64 f, .i .i64 t])] (((tsOf [8, 7] []) e_).zip vs_) ([].zip os_) [(2, [.int .i64])] hs_ (addW ([] ++ []) wr_)))
      (L := LL) (U := 30) (cs := sCall Try.prog 30 (spOf sp0) noLoop 20) (call := CN Try.prog AW m_) (lp := noLoop 30) (root := c0_) (p := [false, true, false, true, true])
      (show CallSOK _ _ from by
        have := sCall_ok (P := Try.prog) (d := m_ - 20) (U := 30) (lp := noLoop) (sp0_ok (fs := fsv) (ov := true) (d := m_ - 20)) (sp0_aw (fs := fsv) (ov := true)) (noLoop_ok) (by decide) 20
        rwa [show 20 + (m_ - 20) = m_ by omega] at this) (fun p f h => by cases h) (by decide) hc_
      (by rintro ⟨i, _ | g⟩ o ho <;> cases ho)
      (fun x hx => by cases hx) (fun x hx => by cases hx) (fun x hx => by cases hx)
      (fun x hx => by
        simp only [List.mem_cons, List.not_mem_nil, or_false] at hx
        rcases hx with rfl | rfl | rfl
        · exact g0
        · exact g1
        · exact g2) (fun x hx => by
        simp only [List.mem_cons, List.not_mem_nil, or_false] at hx
        rcases hx with rfl | rfl | rfl
        · exact ⟨g3, by simp⟩
        · exact ⟨g4, by simp⟩
        · exact ⟨g5, by simp⟩) ?_ (fun _ _ _ _ _ h => h) ?_ ?_ ?_ hs_
    · rintro ⟨i, _ | g⟩ hI
      · exact inn_go0 f t l i i_0 q1 T_ (kills [] M_) _ q2 hI (fun i' g' ha hb => ⟨(i', some g'), ha, hb, rfl, rfl, rfl⟩) (fun i' ha hb => ⟨(i', none), ha, hb, rfl, rfl, rfl⟩) (fun e1 => ⟨by simp [SO.mine], hx1 e1⟩) (fun e1 => ⟨by simp [SO.mine], hx2 e1⟩)
      · exact inn_go f t l i g i_0 q1 T_ (kills [] M_) _ q2 hI (fun i' g' ha hb => ⟨(i', some g'), ha, hb, rfl, rfl, rfl⟩) (fun e1 => ⟨by simp [SO.mine], hx1 e1⟩) (fun e1 => ⟨by simp [SO.mine], hx2 e1⟩)
    · show 0 ≤ i_0 ∧ i_0 ≤ Ll.len l ∧ i_0 ≤ anyI l f t
      exact ⟨by omega, by have : (0 : Int) ≤ Ll.len l := Int.natCast_nonneg _; omega, by rw [q1]; exact (leastN_spec _ _ 0).1⟩
    · show (24 - i_0).toNat < LL
      exact Nat.lt_of_le_of_lt (show _ ≤ 1000 by omega) (by decide)
    · exact ⟨⟨[.i .i64 i_0, .sl 5 0 2 2], [], [], [], by simp [gets, tsOf, g0, g1, g2, g3, g4, g5, g6, g7], by simp [gets, g0, g1, g2, g3, g4, g5, g6, g7], rfl, rfl, by simp [listsOf] <;> rfl⟩⟩
  · exact h_.elim
theorem rlso_eq (f t i z1 z2 : Int) (l p : Ll) (T : Al (SV (stdA fsv true))) (M : Al (SO (stdA fsv true))) (KK : Ex → List (SV (stdA fsv true)) → List (SO (stdA fsv true)) → List Ll → Prop) : sCode Try.prog (sCall Try.prog 30 (spOf spRV) noLoop 20) (noLoop 12) 30 (false :: [false, true, false, true, true, true, true]) (bodyAt Try.prog 12 [false, true, false, true, true, true, true]) (hdL (bodyAt Try.prog 12 [false, true, false, true, true, true, true]) T M 51 5 [(3, .p 1 0), (1, .i .i64 f), (2, .i .i64 t), (7, .p 3 0), (8, .ls true 4 (Ll.len p))] [(0, .list 0 [.int .i64, .int .i64] false l), (1, .row 24 [.ls false 0 (Ll.len l)]), (4, .list 2 [.int .i64] true p)] [(9, .i .i64 i)] [(3, .row 29 [.i .i64 z1, .i .i64 z2])] [] [] []) (outL 5 (tsOf [9] []) [3] [] [] KK) =
  (cond (decide (i < (Ll.len p)))
 ((0 : Int) ≤ i ∧ (i < (Ll.len p) ∧ (i < (Ll.len p) ∧ ((Ll.len l) = (Ll.len l) ∧ (cond (rightB l)
 (InK .i64 (i + (1 : Int)) ∧ (KK .normal [(.i .i64 (i + (1 : Int)))] [(.row 29 [(.i .i64 (minL z1 (valLo l (Ll.get p i 0)))), (.i .i64 (minL z2 (valHi l (Ll.get p i 0))))])] []))
 False)))))
 (KK (.exit 0) [(.i .i64 i)] [(.row 29 [(.i .i64 z1), (.i .i64 z2)])] [])) := by kernel_rfl
theorem rlso_go (f : Int) (t : Int) (l : Ll) (p : Ll) (i : Int) (z1 : Int) (z2 : Int) (i_0 : Int) (z1_0 : Int) (z2_0 : Int) (r1 : i_0 = (0 : Int)) (r2 : z1_0 = (valLo l f)) (r3 : z2_0 = (valHi l f)) (T : Al (SV (stdA fsv true))) (M : Al (SO (stdA fsv true))) (KK : Ex → List (SV (stdA fsv true)) → List (SO (stdA fsv true)) → List Ll → Prop) (p1 : (rightB l) = true) (p2 : (Ll.len p) ≤ (26 : Int)) (hI : 0 ≤ i ∧ i ≤ Ll.len p ∧ z1 = pf minL valLo l p (valLo l f) i.toNat ∧ z2 = pf minL valHi l p (valHi l f) i.toNat) (hn : ∀ (i' : Int) (z1' : Int) (z2' : Int), 0 ≤ i' ∧ i' ≤ Ll.len p ∧ z1' = pf minL valLo l p (valLo l f) i'.toNat ∧ z2' = pf minL valHi l p (valHi l f) i'.toNat → (26 - i').toNat < (26 - i).toNat → KK .normal [.i .i64 i'] [.row 29 [.i .i64 z1', .i .i64 z2']] []) (hx1 : KK (.exit 0) [.i .i64 (Ll.len p)] [.row 29 [.i .i64 (pf minL valLo l p (valLo l f) p.length), .i .i64 (pf minL valHi l p (valHi l f) p.length)]] []) :
    sCode Try.prog (sCall Try.prog 30 (spOf spRV) noLoop 20) (noLoop 12) 30 (false :: [false, true, false, true, true, true, true]) (bodyAt Try.prog 12 [false, true, false, true, true, true, true]) (hdL (bodyAt Try.prog 12 [false, true, false, true, true, true, true]) T M 51 5 [(3, .p 1 0), (1, .i .i64 f), (2, .i .i64 t), (7, .p 3 0), (8, .ls true 4 (Ll.len p))] [(0, .list 0 [.int .i64, .int .i64] false l), (1, .row 24 [.ls false 0 (Ll.len l)]), (4, .list 2 [.int .i64] true p)] [(9, .i .i64 i)] [(3, .row 29 [.i .i64 z1, .i .i64 z2])] [] [] []) (outL 5 (tsOf [9] []) [3] [] [] KK) := by
  refine Eq.mpr (rlso_eq f t i z1 z2 l p T M KK) ?_
  have hl : Ll.len p = (p.length : Int) := rfl
  obtain ⟨i0, i1, rfl, rfl⟩ := hI
  by_cases h : i < Ll.len p
  · have s0 := pf_succ minL valLo l p (valLo l f) i0
    have s1 := pf_succ minL valHi l p (valHi l f) i0
    have hn' := hn (i + 1) _ _ ⟨by omega, by omega, rfl, rfl⟩ (by omega)
    rw [s0, s1] at hn'
    rw [decide_eq_true h, p1]
    clear hn hx1 s0 s1
    repeat' (first | exact hn' | apply And.intro)
    all_goals first | trivial | omega | (rw [InK64]; omega)
  · rw [decide_eq_false h]
    obtain rfl : i = Ll.len p := by omega
    exact hx1
abbrev rlsoF {A : Go.Rx.Alg} : Code → Go.Rx.SS A → (Go.Rx.Ex → Go.Rx.SS A → A.R) → A.R := fun c_ s_ K_ => match s_.T.get 3, s_.T.get 1, s_.T.get 2, s_.T.get 7, s_.T.get 8, s_.H.get 0, s_.H.get 1, s_.H.get 4, s_.T.get 9, s_.H.get 3 with
  | some (.p 1 0), some (.i .i64 f), some (.i .i64 t), some (.p 3 0), some (.ls true 4 m1), some (.list t2 k2 false l), some (.row t3 [.ls false 0 m4]), some (.list t5 k5 true p), some (.i .i64 i), some (.row t6 [.i .i64 z1, .i .i64 z2]) => bif (((((((Nat.beq s_.N 51 && Nat.beq s_.nx 5) && Nat.beq t2 0) && decide (k2 = [.int .i64, .int .i64])) && Nat.beq t3 24) && Nat.beq t5 2) && decide (k5 = [.int .i64])) && Nat.beq t6 29) then (A.need .eql m1 (A.len p) (A.need .eql m4 (A.len l) (A.need .eql i (A.lit 0) (A.need .eql z1 (A.app 4 [l] [f]) (A.need .eql z2 (A.app 5 [l] [f]) (A.br (A.appB 32 [l] []) (fun _ => (A.need .leq (A.len p) (A.lit 26) (K_ (.exit 0) (Go.Rx.hdL c_ s_.T (Go.Rx.kills [] s_.H) 51 5 [(3, .p 1 0), (1, .i .i64 f), (2, .i .i64 t), (7, .p 3 0), (8, .ls true 4 (A.len p))] [(0, .list 0 [.int .i64, .int .i64] false l), (1, .row 24 [.ls false 0 (A.len l)]), (4, .list 2 [.int .i64] true p)] [(9, .i .i64 (A.len p))] [(3, .row 29 [.i .i64 (A.app 23 [l, p] [f]), .i .i64 (A.app 24 [l, p] [f])])] [] [] (Go.Rx.addW ([] ++ [3]) s_.wr))))) (fun _ => A.fail "pre"))))))) else A.fail "frame of rlso"
  | _, _, _, _, _, _, _, _, _, _ => A.fail "rlso"
theorem rlsoF_ok {d : Nat} (hd : 400 ≤ d) : LoopOK (fs := fsv) (ov := true) Try.prog AW d 12 [false, true, false, true, true, true, true] rlsoF := by
  intro m_ hm_ fn_ c0_ hfn_ hb_ c_ ro_ hc_ s_ K_ W_ ν_ S_ h_ hs_
  obtain rfl := body_of hfn_ hb_ hc_
  unfold rlsoF at h_
  split at h_
  · rename_i f_0 t_0 m1_0 t2 k2 l_0 t3 m4_0 t5 k5 p_0 i_0_0 t6 z1_0_0 z2_0_0 g0 g1 g2 g3 g4 g5 g6 g7 g8 g9
    obtain ⟨f, rfl⟩ : ∃ q : Int, q = f_0 := ⟨f_0, rfl⟩
    obtain ⟨t, rfl⟩ : ∃ q : Int, q = t_0 := ⟨t_0, rfl⟩
    obtain ⟨m1, rfl⟩ : ∃ q : Int, q = m1_0 := ⟨m1_0, rfl⟩
    obtain ⟨l, rfl⟩ : ∃ q : Ll, q = l_0 := ⟨l_0, rfl⟩
    obtain ⟨m4, rfl⟩ : ∃ q : Int, q = m4_0 := ⟨m4_0, rfl⟩
    obtain ⟨p, rfl⟩ : ∃ q : Ll, q = p_0 := ⟨p_0, rfl⟩
    obtain ⟨i_0, rfl⟩ : ∃ q : Int, q = i_0_0 := ⟨i_0_0, rfl⟩
    obtain ⟨z1_0, rfl⟩ : ∃ q : Int, q = z1_0_0 := ⟨z1_0_0, rfl⟩
    obtain ⟨z2_0, rfl⟩ : ∃ q : Int, q = z2_0_0 := ⟨z2_0_0, rfl⟩
    obtain ⟨T_, FN_, M_, snx_, wr_⟩ := s_
    have hN : (((((((Nat.beq FN_ 51 && Nat.beq snx_ 5) && Nat.beq t2 0) && decide (k2 = [.int .i64, .int .i64])) && Nat.beq t3 24) && Nat.beq t5 2) && decide (k5 = [.int .i64])) && Nat.beq t6 29) = true := by
      cases hq : ((((((((Nat.beq FN_ 51 && Nat.beq snx_ 5) && Nat.beq t2 0) && decide (k2 = [.int .i64, .int .i64])) && Nat.beq t3 24) && Nat.beq t5 2) && decide (k5 = [.int .i64])) && Nat.beq t6 29) : Bool) with
      | true => rfl
      | false => (rw [hq] at h_; exact h_.elim)
    rw [hN, cond_true] at h_
    simp only [Bool.and_eq_true, beq_iff, decide_eq_true_eq] at hN
    obtain ⟨⟨⟨⟨⟨⟨⟨rfl, rfl⟩, rfl⟩, rfl⟩, rfl⟩, rfl⟩, rfl⟩, rfl⟩ := hN
    obtain ⟨q0, h_⟩ := h_
    obtain rfl : m1 = (Ll.len p) := q0
    obtain ⟨q0, h_⟩ := h_
    obtain rfl : m4 = (Ll.len l) := q0
    obtain ⟨q1, h_⟩ := h_
    have q1 : i_0 = (0 : Int) := q1
    obtain ⟨q2, h_⟩ := h_
    have q2 : z1_0 = (valLo l f) := q2
    obtain ⟨q3, h_⟩ := h_
    have q3 : z2_0 = (valHi l f) := q3
    obtain ⟨q4, h_⟩ := br_pre (fs := fsv) (ov := true) h_
    have q4 : (rightB l) = true := q4
    obtain ⟨q5, h_⟩ := h_
    have q5 : (Ll.len p) ≤ (26 : Int) := q5
    replace h_ : K_ (.exit 0) (hdL (bodyAt Try.prog 12 [false, true, false, true, true, true, true]) T_ (kills [] M_) 51 5 [(3, .p 1 0), (1, .i .i64 f), (2, .i .i64 t), (7, .p 3 0), (8, .ls true 4 (Ll.len p))] [(0, .list 0 [.int .i64, .int .i64] false l), (1, .row 24 [.ls false 0 (Ll.len l)]), (4, .list 2 [.int .i64] true p)] [(9, .i .i64 (Ll.len p))] [(3, .row 29 [.i .i64 (pf minL valLo l p (valLo l f) p.length), .i .i64 (pf minL valHi l p (valHi l f) p.length)])] [] [] (addW ([] ++ [3]) wr_)) := h_
    have hx1 : K_ (.exit 0) (hdL (bodyAt Try.prog 12 [false, true, false, true, true, true, true]) T_ (kills [] M_) 51 5 [(3, .p 1 0), (1, .i .i64 f), (2, .i .i64 t), (7, .p 3 0), (8, .ls true 4 (Ll.len p))] [(0, .list 0 [.int .i64, .int .i64] false l), (1, .row 24 [.ls false 0 (Ll.len l)]), (4, .list 2 [.int .i64] true p)] [(9, .i .i64 (Ll.len p))] [(3, .row 29 [.i .i64 (pf minL valLo l p (valLo l f) p.length), .i .i64 (pf minL valHi l p (valHi l f) p.length)])] [] [] (addW ([] ++ [3]) wr_)) := by
      have h2 := h_
      exact h2
    refine loop_ruleL (fs := fsv) (ov := true) (s := ⟨T_, 51, M_, 5, wr_⟩) (X := Int × Int × Int) (B := [3]) (mv := []) (kt := [(3, .p 1 0), (1, .i .i64 f), (2, .i .i64 t), (7, .p 3 0), (8, .ls true 4 (Ll.len p))]) (kr := [(0, .list 0 [.int .i64, .int .i64] false l), (1, .row 24 [.ls false 0 (Ll.len l)]), (4, .list 2 [.int .i64] true p)]) (ty := []) (x := (i_0, z1_0, z2_0))
      (Inv := (fun x_ : Int × Int × Int => match x_ with | (i, z1, z2) => 0 ≤ i ∧ i ≤ Ll.len p ∧ z1 = pf minL valLo l p (valLo l f) i.toNat ∧ z2 = pf minL valHi l p (valHi l f) i.toNat)) (μ := (fun x_ : Int × Int × Int => match x_ with | (i, z1, z2) => (26 - i).toNat)) (ts := tsOf [9] []) (sl := (fun x_ : Int × Int × Int => match x_ with | (i, z1, z2) => [.i .i64 i])) (bl := (fun x_ : Int × Int × Int => match x_ with | (i, z1, z2) => [.row 29 [.i .i64 z1, .i .i64 z2]])) (ll := (fun x_ : Int × Int × Int => match x_ with | (i, z1, z2) => [])) (Q := fun e_ vs_ os_ hs_ => K_ e_ (hdL (bodyAt Try.prog 12 [false, true, false, true, true, true, true]) T_ (kills [] M_) 51 5 [(3, .p 1 0), (1, .i .i64 f), (2, .i .i64 t), (7, .p 3 0), (8, .ls true 4 (Ll.len p))] [(0, .list 0 [.int .i64, .int .i64] false l), (1, .row 24 [.ls false 0 (Ll.len l)]), (4, .list 2 [.int .i64] true p)] (((tsOf [9] []) e_).zip vs_) ([3].zip os_) [] hs_ (addW ([] ++ [3]) wr_)))
      (L := LL) (U := 30) (cs := sCall Try.prog 30 (spOf spRV) noLoop 20) (call := CN Try.prog AW m_) (lp := noLoop 12) (root := c0_) (p := [false, true, false, true, true, true, true])
      (show CallSOK _ _ from by
        have := sCall_ok (P := Try.prog) (d := m_ - 20) (U := 30) (lp := noLoop) (spRV_ok (ov := true) (d := m_ - 20) (by omega)) (spRV_aw (fs := fsv) (ov := true)) (noLoop_ok) (by decide) 20
        rwa [show 20 + (m_ - 20) = m_ by omega] at this) (fun p f h => by cases h) (by decide) hc_
      (by
        rintro ⟨i, z1, z2⟩ o ho
        simp only [List.mem_cons, List.not_mem_nil, or_false] at ho
        rcases ho with rfl
        · rfl)
      (fun x hx => by
        simp only [List.mem_cons, List.not_mem_nil, or_false] at hx
        rcases hx with rfl
        · exact ⟨_, g9, rfl⟩) (fun x hx => by cases hx) (fun x hx => by
        simp only [List.mem_cons, List.not_mem_nil, or_false] at hx
        rcases hx with rfl
        · simp)
      (fun x hx => by
        simp only [List.mem_cons, List.not_mem_nil, or_false] at hx
        rcases hx with rfl | rfl | rfl | rfl | rfl
        · exact g0
        · exact g1
        · exact g2
        · exact g3
        · exact g4) (fun x hx => by
        simp only [List.mem_cons, List.not_mem_nil, or_false] at hx
        rcases hx with rfl | rfl | rfl
        · exact ⟨g5, by simp⟩
        · exact ⟨g6, by simp⟩
        · exact ⟨g7, by simp⟩) ?_ (fun _ _ _ _ _ h => h) ?_ ?_ ?_ hs_
    · rintro ⟨i, z1, z2⟩ hI
      exact rlso_go f t l p i z1 z2 i_0 z1_0 z2_0 q1 q2 q3 T_ (kills [] M_) _ q4 q5 hI (fun i' z1' z2' ha hb => ⟨(i', z1', z2'), ha, hb, rfl, rfl, rfl⟩) (⟨by simp [SO.mine], hx1⟩)
    · show 0 ≤ i_0 ∧ i_0 ≤ Ll.len p ∧ z1_0 = pf minL valLo l p (valLo l f) i_0.toNat ∧ z2_0 = pf minL valHi l p (valHi l f) i_0.toNat
      exact ⟨by omega, by have : (0 : Int) ≤ Ll.len p := Int.natCast_nonneg _; omega, by rw [q2, q1]; rfl, by rw [q3, q1]; rfl⟩
    · show (26 - i_0).toNat < LL
      exact Nat.lt_of_le_of_lt (show _ ≤ 1000 by omega) (by decide)
    · exact ⟨⟨[.i .i64 i_0], [.row 29 [.i .i64 z1_0, .i .i64 z2_0]], [], [], by simp [gets, tsOf, g0, g1, g2, g3, g4, g5, g6, g7, g8, g9], by simp [gets, g0, g1, g2, g3, g4, g5, g6, g7, g8, g9], rfl, rfl, by simp [listsOf] <;> rfl⟩⟩
  · exact h_.elim
theorem rlsb_eq (f t i z1 z2 : Int) (l p : Ll) (T : Al (SV (stdA fsv true))) (M : Al (SO (stdA fsv true))) (KK : Ex → List (SV (stdA fsv true)) → List (SO (stdA fsv true)) → List Ll → Prop) : sCode Try.prog (sCall Try.prog 30 (spOf spRV) noLoop 20) (noLoop 12) 30 (false :: [false, true, false, true, true, true, true]) (bodyAt Try.prog 12 [false, true, false, true, true, true, true]) (hdL (bodyAt Try.prog 12 [false, true, false, true, true, true, true]) T M 51 5 [(3, .p 1 0), (1, .i .i64 f), (2, .i .i64 t), (7, .p 3 0), (8, .ls false 4 (Ll.len p))] [(0, .list 0 [.int .i64, .int .i64] false l), (1, .row 24 [.ls false 0 (Ll.len l)]), (4, .list 2 [.int .i64] false p)] [(9, .i .i64 i)] [(3, .row 29 [.i .i64 z1, .i .i64 z2])] [] [] []) (outL 5 (tsOf [9] []) [3] [] [] KK) =
  (cond (decide (i < (Ll.len p)))
 ((0 : Int) ≤ i ∧ (i < (Ll.len p) ∧ (i < (Ll.len p) ∧ ((Ll.len l) = (Ll.len l) ∧ (cond (rightB l)
 (InK .i64 (i + (1 : Int)) ∧ (KK .normal [(.i .i64 (i + (1 : Int)))] [(.row 29 [(.i .i64 (minL z1 (valLo l (Ll.get p i 0)))), (.i .i64 (minL z2 (valHi l (Ll.get p i 0))))])] []))
 False)))))
 (KK (.exit 0) [(.i .i64 i)] [(.row 29 [(.i .i64 z1), (.i .i64 z2)])] [])) := by kernel_rfl
theorem rlsb_go (f : Int) (t : Int) (l : Ll) (p : Ll) (i : Int) (z1 : Int) (z2 : Int) (i_0 : Int) (z1_0 : Int) (z2_0 : Int) (r1 : i_0 = (0 : Int)) (r2 : z1_0 = (valLo l f)) (r3 : z2_0 = (valHi l f)) (T : Al (SV (stdA fsv true))) (M : Al (SO (stdA fsv true))) (KK : Ex → List (SV (stdA fsv true)) → List (SO (stdA fsv true)) → List Ll → Prop) (p1 : (rightB l) = true) (p2 : (Ll.len p) ≤ (26 : Int)) (hI : 0 ≤ i ∧ i ≤ Ll.len p ∧ z1 = pf minL valLo l p (valLo l f) i.toNat ∧ z2 = pf minL valHi l p (valHi l f) i.toNat) (hn : ∀ (i' : Int) (z1' : Int) (z2' : Int), 0 ≤ i' ∧ i' ≤ Ll.len p ∧ z1' = pf minL valLo l p (valLo l f) i'.toNat ∧ z2' = pf minL valHi l p (valHi l f) i'.toNat → (26 - i').toNat < (26 - i).toNat → KK .normal [.i .i64 i'] [.row 29 [.i .i64 z1', .i .i64 z2']] []) (hx1 : KK (.exit 0) [.i .i64 (Ll.len p)] [.row 29 [.i .i64 (pf minL valLo l p (valLo l f) p.length), .i .i64 (pf minL valHi l p (valHi l f) p.length)]] []) :
    sCode Try.prog (sCall Try.prog 30 (spOf spRV) noLoop 20) (noLoop 12) 30 (false :: [false, true, false, true, true, true, true]) (bodyAt Try.prog 12 [false, true, false, true, true, true, true]) (hdL (bodyAt Try.prog 12 [false, true, false, true, true, true, true]) T M 51 5 [(3, .p 1 0), (1, .i .i64 f), (2, .i .i64 t), (7, .p 3 0), (8, .ls false 4 (Ll.len p))] [(0, .list 0 [.int .i64, .int .i64] false l), (1, .row 24 [.ls false 0 (Ll.len l)]), (4, .list 2 [.int .i64] false p)] [(9, .i .i64 i)] [(3, .row 29 [.i .i64 z1, .i .i64 z2])] [] [] []) (outL 5 (tsOf [9] []) [3] [] [] KK) := by
  refine Eq.mpr (rlsb_eq f t i z1 z2 l p T M KK) ?_
  have hl : Ll.len p = (p.length : Int) := rfl
  obtain ⟨i0, i1, rfl, rfl⟩ := hI
  by_cases h : i < Ll.len p
  · have s0 := pf_succ minL valLo l p (valLo l f) i0
    have s1 := pf_succ minL valHi l p (valHi l f) i0
    have hn' := hn (i + 1) _ _ ⟨by omega, by omega, rfl, rfl⟩ (by omega)
    rw [s0, s1] at hn'
    rw [decide_eq_true h, p1]
    clear hn hx1 s0 s1
    repeat' (first | exact hn' | apply And.intro)
    all_goals first | trivial | omega | (rw [InK64]; omega)
  · rw [decide_eq_false h]
    obtain rfl : i = Ll.len p := by omega
    exact hx1
abbrev rlsbF {A : Go.Rx.Alg} : Code → Go.Rx.SS A → (Go.Rx.Ex → Go.Rx.SS A → A.R) → A.R := fun c_ s_ K_ => match s_.T.get 3, s_.T.get 1, s_.T.get 2, s_.T.get 7, s_.T.get 8, s_.H.get 0, s_.H.get 1, s_.H.get 4, s_.T.get 9, s_.H.get 3 with
  | some (.p 1 0), some (.i .i64 f), some (.i .i64 t), some (.p 3 0), some (.ls false 4 m1), some (.list t2 k2 false l), some (.row t3 [.ls false 0 m4]), some (.list t5 k5 false p), some (.i .i64 i), some (.row t6 [.i .i64 z1, .i .i64 z2]) => bif (((((((Nat.beq s_.N 51 && Nat.beq s_.nx 5) && Nat.beq t2 0) && decide (k2 = [.int .i64, .int .i64])) && Nat.beq t3 24) && Nat.beq t5 2) && decide (k5 = [.int .i64])) && Nat.beq t6 29) then (A.need .eql m1 (A.len p) (A.need .eql m4 (A.len l) (A.need .eql i (A.lit 0) (A.need .eql z1 (A.app 4 [l] [f]) (A.need .eql z2 (A.app 5 [l] [f]) (A.br (A.appB 32 [l] []) (fun _ => (A.need .leq (A.len p) (A.lit 26) (K_ (.exit 0) (Go.Rx.hdL c_ s_.T (Go.Rx.kills [] s_.H) 51 5 [(3, .p 1 0), (1, .i .i64 f), (2, .i .i64 t), (7, .p 3 0), (8, .ls false 4 (A.len p))] [(0, .list 0 [.int .i64, .int .i64] false l), (1, .row 24 [.ls false 0 (A.len l)]), (4, .list 2 [.int .i64] false p)] [(9, .i .i64 (A.len p))] [(3, .row 29 [.i .i64 (A.app 23 [l, p] [f]), .i .i64 (A.app 24 [l, p] [f])])] [] [] (Go.Rx.addW ([] ++ [3]) s_.wr))))) (fun _ => A.fail "pre"))))))) else A.fail "frame of rlsb"
  | _, _, _, _, _, _, _, _, _, _ => A.fail "rlsb"
theorem rlsbF_ok {d : Nat} (hd : 400 ≤ d) : LoopOK (fs := fsv) (ov := true) Try.prog AW d 12 [false, true, false, true, true, true, true] rlsbF := by
  intro m_ hm_ fn_ c0_ hfn_ hb_ c_ ro_ hc_ s_ K_ W_ ν_ S_ h_ hs_
  obtain rfl := body_of hfn_ hb_ hc_
  unfold rlsbF at h_
  split at h_
  · rename_i f_0 t_0 m1_0 t2 k2 l_0 t3 m4_0 t5 k5 p_0 i_0_0 t6 z1_0_0 z2_0_0 g0 g1 g2 g3 g4 g5 g6 g7 g8 g9
    obtain ⟨f, rfl⟩ : ∃ q : Int, q = f_0 := ⟨f_0, rfl⟩
    obtain ⟨t, rfl⟩ : ∃ q : Int, q = t_0 := ⟨t_0, rfl⟩
    obtain ⟨m1, rfl⟩ : ∃ q : Int, q = m1_0 := ⟨m1_0, rfl⟩
    obtain ⟨l, rfl⟩ : ∃ q : Ll, q = l_0 := ⟨l_0, rfl⟩
    obtain ⟨m4, rfl⟩ : ∃ q : Int, q = m4_0 := ⟨m4_0, rfl⟩
    obtain ⟨p, rfl⟩ : ∃ q : Ll, q = p_0 := ⟨p_0, rfl⟩
    obtain ⟨i_0, rfl⟩ : ∃ q : Int, q = i_0_0 := ⟨i_0_0, rfl⟩
    obtain ⟨z1_0, rfl⟩ : ∃ q : Int, q = z1_0_0 := ⟨z1_0_0, rfl⟩
    obtain ⟨z2_0, rfl⟩ : ∃ q : Int, q = z2_0_0 := ⟨z2_0_0, rfl⟩
    obtain ⟨T_, FN_, M_, snx_, wr_⟩ := s_
    have hN : (((((((Nat.beq FN_ 51 && Nat.beq snx_ 5) && Nat.beq t2 0) && decide (k2 = [.int .i64, .int .i64])) && Nat.beq t3 24) && Nat.beq t5 2) && decide (k5 = [.int .i64])) && Nat.beq t6 29) = true := by
      cases hq : ((((((((Nat.beq FN_ 51 && Nat.beq snx_ 5) && Nat.beq t2 0) && decide (k2 = [.int .i64, .int .i64])) && Nat.beq t3 24) && Nat.beq t5 2) && decide (k5 = [.int .i64])) && Nat.beq t6 29) : Bool) with
      | true => rfl
      | false => (rw [hq] at h_; exact h_.elim)
    rw [hN, cond_true] at h_
    simp only [Bool.and_eq_true, beq_iff, decide_eq_true_eq] at hN
    obtain ⟨⟨⟨⟨⟨⟨⟨rfl, rfl⟩, rfl⟩, rfl⟩, rfl⟩, rfl⟩, rfl⟩, rfl⟩ := hN
    obtain ⟨q0, h_⟩ := h_
    obtain rfl : m1 = (Ll.len p) := q0
    obtain ⟨q0, h_⟩ := h_
    obtain rfl : m4 = (Ll.len l) := q0
    obtain ⟨q1, h_⟩ := h_
    have q1 : i_0 = (0 : Int) := q1
    obtain ⟨q2, h_⟩ := h_
    have q2 : z1_0 = (valLo l f) := q2
    obtain ⟨q3, h_⟩ := h_
    have q3 : z2_0 = (valHi l f) := q3
    obtain ⟨q4, h_⟩ := br_pre (fs := fsv) (ov := true) h_
    have q4 : (rightB l) = true := q4
    obtain ⟨q5, h_⟩ := h_
    have q5 : (Ll.len p) ≤ (26 : Int) := q5
    replace h_ : K_ (.exit 0) (hdL (bodyAt Try.prog 12 [false, true, false, true, true, true, true]) T_ (kills [] M_) 51 5 [(3, .p 1 0), (1, .i .i64 f), (2, .i .i64 t), (7, .p 3 0), (8, .ls false 4 (Ll.len p))] [(0, .list 0 [.int .i64, .int .i64] false l), (1, .row 24 [.ls false 0 (Ll.len l)]), (4, .list 2 [.int .i64] false p)] [(9, .i .i64 (Ll.len p))] [(3, .row 29 [.i .i64 (pf minL valLo l p (valLo l f) p.length), .i .i64 (pf minL valHi l p (valHi l f) p.length)])] [] [] (addW ([] ++ [3]) wr_)) := h_
    have hx1 : K_ (.exit 0) (hdL (bodyAt Try.prog 12 [false, true, false, true, true, true, true]) T_ (kills [] M_) 51 5 [(3, .p 1 0), (1, .i .i64 f), (2, .i .i64 t), (7, .p 3 0), (8, .ls false 4 (Ll.len p))] [(0, .list 0 [.int .i64, .int .i64] false l), (1, .row 24 [.ls false 0 (Ll.len l)]), (4, .list 2 [.int .i64] false p)] [(9, .i .i64 (Ll.len p))] [(3, .row 29 [.i .i64 (pf minL valLo l p (valLo l f) p.length), .i .i64 (pf minL valHi l p (valHi l f) p.length)])] [] [] (addW ([] ++ [3]) wr_)) := by
      have h2 := h_
      exact h2
    refine loop_ruleL (fs := fsv) (ov := true) (s := ⟨T_, 51, M_, 5, wr_⟩) (X := Int × Int × Int) (B := [3]) (mv := []) (kt := [(3, .p 1 0), (1, .i .i64 f), (2, .i .i64 t), (7, .p 3 0), (8, .ls false 4 (Ll.len p))]) (kr := [(0, .list 0 [.int .i64, .int .i64] false l), (1, .row 24 [.ls false 0 (Ll.len l)]), (4, .list 2 [.int .i64] false p)]) (ty := []) (x := (i_0, z1_0, z2_0))
      (Inv := (fun x_ : Int × Int × Int => match x_ with | (i, z1, z2) => 0 ≤ i ∧ i ≤ Ll.len p ∧ z1 = pf minL valLo l p (valLo l f) i.toNat ∧ z2 = pf minL valHi l p (valHi l f) i.toNat)) (μ := (fun x_ : Int × Int × Int => match x_ with | (i, z1, z2) => (26 - i).toNat)) (ts := tsOf [9] []) (sl := (fun x_ : Int × Int × Int => match x_ with | (i, z1, z2) => [.i .i64 i])) (bl := (fun x_ : Int × Int × Int => match x_ with | (i, z1, z2) => [.row 29 [.i .i64 z1, .i .i64 z2]])) (ll := (fun x_ : Int × Int × Int => match x_ with | (i, z1, z2) => [])) (Q := fun e_ vs_ os_ hs_ => K_ e_ (hdL (bodyAt Try.prog 12 [false, true, false, true, true, true, true]) T_ (kills [] M_) 51 5 [(3, .p 1 0), (1, .i .i64 f), (2, .i .i64 t), (7, .p 3 0), (8, .ls false 4 (Ll.len p))] [(0, .list 0 [.int .i64, .int .i64] false l), (1, .row 24 [.ls false 0 (Ll.len l)]), (4, .list 2 [.int .i64] false p)] (((tsOf [9] []) e_).zip vs_) ([3].zip os_) [] hs_ (addW ([] ++ [3]) wr_)))
      (L := LL) (U := 30) (cs := sCall Try.prog 30 (spOf spRV) noLoop 20) (call := CN Try.prog AW m_) (lp := noLoop 12) (root := c0_) (p := [false, true, false, true, true, true, true])
      (show CallSOK _ _ from by
        have := sCall_ok (P := Try.prog) (d := m_ - 20) (U := 30) (lp := noLoop) (spRV_ok (ov := true) (d := m_ - 20) (by omega)) (spRV_aw (fs := fsv) (ov := true)) (noLoop_ok) (by decide) 20
        rwa [show 20 + (m_ - 20) = m_ by omega] at this) (fun p f h => by cases h) (by decide) hc_
      (by
        rintro ⟨i, z1, z2⟩ o ho
        simp only [List.mem_cons, List.not_mem_nil, or_false] at ho
        rcases ho with rfl
        · rfl)
      (fun x hx => by
        simp only [List.mem_cons, List.not_mem_nil, or_false] at hx
        rcases hx with rfl
        · exact ⟨_, g9, rfl⟩) (fun x hx => by cases hx) (fun x hx => by
        simp only [List.mem_cons, List.not_mem_nil, or_false] at hx
        rcases hx with rfl
        · simp)
      (fun x hx => by
        simp only [List.mem_cons, List.not_mem_nil, or_false] at hx
        rcases hx with rfl | rfl | rfl | rfl | rfl
        · exact g0
        · exact g1
        · exact g2
        · exact g3
        · exact g4) (fun x hx => by
        simp only [List.mem_cons, List.not_mem_nil, or_false] at hx
        rcases hx with rfl | rfl | rfl
        · exact ⟨g5, by simp⟩
        · exact ⟨g6, by simp⟩
        · exact ⟨g7, by simp⟩) ?_ (fun _ _ _ _ _ h => h) ?_ ?_ ?_ hs_
    · rintro ⟨i, z1, z2⟩ hI
      exact rlsb_go f t l p i z1 z2 i_0 z1_0 z2_0 q1 q2 q3 T_ (kills [] M_) _ q4 q5 hI (fun i' z1' z2' ha hb => ⟨(i', z1', z2'), ha, hb, rfl, rfl, rfl⟩) (⟨by simp [SO.mine], hx1⟩)
    · show 0 ≤ i_0 ∧ i_0 ≤ Ll.len p ∧ z1_0 = pf minL valLo l p (valLo l f) i_0.toNat ∧ z2_0 = pf minL valHi l p (valHi l f) i_0.toNat
      exact ⟨by omega, by have : (0 : Int) ≤ Ll.len p := Int.natCast_nonneg _; omega, by rw [q2, q1]; rfl, by rw [q3, q1]; rfl⟩
    · show (26 - i_0).toNat < LL
      exact Nat.lt_of_le_of_lt (show _ ≤ 1000 by omega) (by decide)
    · exact ⟨⟨[.i .i64 i_0], [.row 29 [.i .i64 z1_0, .i .i64 z2_0]], [], [], by simp [gets, tsOf, g0, g1, g2, g3, g4, g5, g6, g7, g8, g9], by simp [gets, g0, g1, g2, g3, g4, g5, g6, g7, g8, g9], rfl, rfl, by simp [listsOf] <;> rfl⟩⟩
  · exact h_.elim
abbrev rlsF {A : Go.Rx.Alg} : Code → Go.Rx.SS A → (Go.Rx.Ex → Go.Rx.SS A → A.R) → A.R := fun c s K => match s.T.get 8 with
  | some (.ls true _ _) => rlsoF c s K
  | _ => rlsbF c s K
theorem rlsF_ok {d : Nat} (hd : 400 ≤ d) : LoopOK (fs := fsv) (ov := true) Try.prog AW d 12 [false, true, false, true, true, true, true] rlsF := by
  intro m hm fn c0 h1 h2 c ro h3 s K W ν S h hs
  unfold rlsF at h
  split at h
  · exact rlsoF_ok hd m hm fn c0 h1 h2 c ro h3 s K W ν S h hs
  · exact rlsbF_ok hd m hm fn c0 h1 h2 c ro h3 s K W ν S h hs
theorem rmso_eq (f t i z1 z2 : Int) (l p : Ll) (T : Al (SV (stdA fsv true))) (M : Al (SO (stdA fsv true))) (KK : Ex → List (SV (stdA fsv true)) → List (SO (stdA fsv true)) → List Ll → Prop) : sCode Try.prog (sCall Try.prog 30 (spOf spRV) noLoop 20) (noLoop 14) 30 (false :: [false, true, false, true, true, true, true]) (bodyAt Try.prog 14 [false, true, false, true, true, true, true]) (hdL (bodyAt Try.prog 14 [false, true, false, true, true, true, true]) T M 51 5 [(3, .p 1 0), (1, .i .i64 f), (2, .i .i64 t), (7, .p 3 0), (8, .ls true 4 (Ll.len p))] [(0, .list 0 [.int .i64, .int .i64] false l), (1, .row 24 [.ls false 0 (Ll.len l)]), (4, .list 2 [.int .i64] true p)] [(9, .i .i64 i)] [(3, .row 29 [.i .i64 z1, .i .i64 z2])] [] [] []) (outL 5 (tsOf [9] []) [3] [] [] KK) =
  (cond (decide (i < (Ll.len p)))
 ((0 : Int) ≤ i ∧ (i < (Ll.len p) ∧ (i < (Ll.len p) ∧ ((Ll.len l) = (Ll.len l) ∧ (cond (rightB l)
 (InK .i64 (i + (1 : Int)) ∧ (KK .normal [(.i .i64 (i + (1 : Int)))] [(.row 29 [(.i .i64 (maxL z1 (valLo l (Ll.get p i 0)))), (.i .i64 (maxL z2 (valHi l (Ll.get p i 0))))])] []))
 False)))))
 (KK (.exit 0) [(.i .i64 i)] [(.row 29 [(.i .i64 z1), (.i .i64 z2)])] [])) := by kernel_rfl
theorem rmso_go (f : Int) (t : Int) (l : Ll) (p : Ll) (i : Int) (z1 : Int) (z2 : Int) (i_0 : Int) (z1_0 : Int) (z2_0 : Int) (r1 : i_0 = (0 : Int)) (r2 : z1_0 = (valLo l f)) (r3 : z2_0 = (valHi l f)) (T : Al (SV (stdA fsv true))) (M : Al (SO (stdA fsv true))) (KK : Ex → List (SV (stdA fsv true)) → List (SO (stdA fsv true)) → List Ll → Prop) (p1 : (rightB l) = true) (p2 : (Ll.len p) ≤ (26 : Int)) (hI : 0 ≤ i ∧ i ≤ Ll.len p ∧ z1 = pf maxL valLo l p (valLo l f) i.toNat ∧ z2 = pf maxL valHi l p (valHi l f) i.toNat) (hn : ∀ (i' : Int) (z1' : Int) (z2' : Int), 0 ≤ i' ∧ i' ≤ Ll.len p ∧ z1' = pf maxL valLo l p (valLo l f) i'.toNat ∧ z2' = pf maxL valHi l p (valHi l f) i'.toNat → (26 - i').toNat < (26 - i).toNat → KK .normal [.i .i64 i'] [.row 29 [.i .i64 z1', .i .i64 z2']] []) (hx1 : KK (.exit 0) [.i .i64 (Ll.len p)] [.row 29 [.i .i64 (pf maxL valLo l p (valLo l f) p.length), .i .i64 (pf maxL valHi l p (valHi l f) p.length)]] []) :
    sCode Try.prog (sCall Try.prog 30 (spOf spRV) noLoop 20) (noLoop 14) 30 (false :: [false, true, false, true, true, true, true]) (bodyAt Try.prog 14 [false, true, false, true, true, true, true]) (hdL (bodyAt Try.prog 14 [false, true, false, true, true, true, true]) T M 51 5 [(3, .p 1 0), (1, .i .i64 f), (2, .i .i64 t), (7, .p 3 0), (8, .ls true 4 (Ll.len p))] [(0, .list 0 [.int .i64, .int .i64] false l), (1, .row 24 [.ls false 0 (Ll.len l)]), (4, .list 2 [.int .i64] true p)] [(9, .i .i64 i)] [(3, .row 29 [.i .i64 z1, .i .i64 z2])] [] [] []) (outL 5 (tsOf [9] []) [3] [] [] KK) := by
  refine Eq.mpr (rmso_eq f t i z1 z2 l p T M KK) ?_
  have hl : Ll.len p = (p.length : Int) := rfl
  obtain ⟨i0, i1, rfl, rfl⟩ := hI
  by_cases h : i < Ll.len p
  · have s0 := pf_succ maxL valLo l p (valLo l f) i0
    have s1 := pf_succ maxL valHi l p (valHi l f) i0
    have hn' := hn (i + 1) _ _ ⟨by omega, by omega, rfl, rfl⟩ (by omega)
    rw [s0, s1] at hn'
    rw [decide_eq_true h, p1]
    clear hn hx1 s0 s1
    repeat' (first | exact hn' | apply And.intro)
    all_goals first | trivial | omega | (rw [InK64]; omega)
  · rw [decide_eq_false h]
    obtain rfl : i = Ll.len p := by omega
    exact hx1
abbrev rmsoF {A : Go.Rx.Alg} : Code → Go.Rx.SS A → (Go.Rx.Ex → Go.Rx.SS A → A.R) → A.R := fun c_ s_ K_ => match s_.T.get 3, s_.T.get 1, s_.T.get 2, s_.T.get 7, s_.T.get 8, s_.H.get 0, s_.H.get 1, s_.H.get 4, s_.T.get 9, s_.H.get 3 with
  | some (.p 1 0), some (.i .i64 f), some (.i .i64 t), some (.p 3 0), some (.ls true 4 m1), some (.list t2 k2 false l), some (.row t3 [.ls false 0 m4]), some (.list t5 k5 true p), some (.i .i64 i), some (.row t6 [.i .i64 z1, .i .i64 z2]) => bif (((((((Nat.beq s_.N 51 && Nat.beq s_.nx 5) && Nat.beq t2 0) && decide (k2 = [.int .i64, .int .i64])) && Nat.beq t3 24) && Nat.beq t5 2) && decide (k5 = [.int .i64])) && Nat.beq t6 29) then (A.need .eql m1 (A.len p) (A.need .eql m4 (A.len l) (A.need .eql i (A.lit 0) (A.need .eql z1 (A.app 4 [l] [f]) (A.need .eql z2 (A.app 5 [l] [f]) (A.br (A.appB 32 [l] []) (fun _ => (A.need .leq (A.len p) (A.lit 26) (K_ (.exit 0) (Go.Rx.hdL c_ s_.T (Go.Rx.kills [] s_.H) 51 5 [(3, .p 1 0), (1, .i .i64 f), (2, .i .i64 t), (7, .p 3 0), (8, .ls true 4 (A.len p))] [(0, .list 0 [.int .i64, .int .i64] false l), (1, .row 24 [.ls false 0 (A.len l)]), (4, .list 2 [.int .i64] true p)] [(9, .i .i64 (A.len p))] [(3, .row 29 [.i .i64 (A.app 25 [l, p] [f]), .i .i64 (A.app 26 [l, p] [f])])] [] [] (Go.Rx.addW ([] ++ [3]) s_.wr))))) (fun _ => A.fail "pre"))))))) else A.fail "frame of rmso"
  | _, _, _, _, _, _, _, _, _, _ => A.fail "rmso"
theorem rmsoF_ok {d : Nat} (hd : 400 ≤ d) : LoopOK (fs := fsv) (ov := true) Try.prog AW d 14 [false, true, false, true, true, true, true] rmsoF := by
  intro m_ hm_ fn_ c0_ hfn_ hb_ c_ ro_ hc_ s_ K_ W_ ν_ S_ h_ hs_
  obtain rfl := body_of hfn_ hb_ hc_
  unfold rmsoF at h_
  split at h_
  · rename_i f_0 t_0 m1_0 t2 k2 l_0 t3 m4_0 t5 k5 p_0 i_0_0 t6 z1_0_0 z2_0_0 g0 g1 g2 g3 g4 g5 g6 g7 g8 g9
    obtain ⟨f, rfl⟩ : ∃ q : Int, q = f_0 := ⟨f_0, rfl⟩
    obtain ⟨t, rfl⟩ : ∃ q : Int, q = t_0 := ⟨t_0, rfl⟩
    obtain ⟨m1, rfl⟩ : ∃ q : Int, q = m1_0 := ⟨m1_0, rfl⟩
    obtain ⟨l, rfl⟩ : ∃ q : Ll, q = l_0 := ⟨l_0, rfl⟩
    obtain ⟨m4, rfl⟩ : ∃ q : Int, q = m4_0 := ⟨m4_0, rfl⟩
    obtain ⟨p, rfl⟩ : ∃ q : Ll, q = p_0 := ⟨p_0, rfl⟩
    obtain ⟨i_0, rfl⟩ : ∃ q : Int, q = i_0_0 := ⟨i_0_0, rfl⟩
    obtain ⟨z1_0, rfl⟩ : ∃ q : Int, q = z1_0_0 := ⟨z1_0_0, rfl⟩
    obtain ⟨z2_0, rfl⟩ : ∃ q : Int, q = z2_0_0 := ⟨z2_0_0, rfl⟩
    obtain ⟨T_, FN_, M_, snx_, wr_⟩ := s_
    have hN : (((((((Nat.beq FN_ 51 && Nat.beq snx_ 5) && Nat.beq t2 0) && decide (k2 = [.int .i64, .int .i64])) && Nat.beq t3 24) && Nat.beq t5 2) && decide (k5 = [.int .i64])) && Nat.beq t6 29) = true := by
      cases hq : ((((((((Nat.beq FN_ 51 && Nat.beq snx_ 5) && Nat.beq t2 0) && decide (k2 = [.int .i64, .int .i64])) && Nat.beq t3 24) && Nat.beq t5 2) && decide (k5 = [.int .i64])) && Nat.beq t6 29) : Bool) with
      | true => rfl
      | false => (rw [hq] at h_; exact h_.elim)
    rw [hN, cond_true] at h_
    simp only [Bool.and_eq_true, beq_iff, decide_eq_true_eq] at hN
    obtain ⟨⟨⟨⟨⟨⟨⟨rfl, rfl⟩, rfl⟩, rfl⟩, rfl⟩, rfl⟩, rfl⟩, rfl⟩ := hN
    obtain ⟨q0, h_⟩ := h_
    obtain rfl : m1 = (Ll.len p) := q0
    obtain ⟨q0, h_⟩ := h_
    obtain rfl : m4 = (Ll.len l) := q0
    obtain ⟨q1, h_⟩ := h_
    have q1 : i_0 = (0 : Int) := q1
    obtain ⟨q2, h_⟩ := h_
    have q2 : z1_0 = (valLo l f) := q2
    obtain ⟨q3, h_⟩ := h_
    have q3 : z2_0 = (valHi l f) := q3
    obtain ⟨q4, h_⟩ := br_pre (fs := fsv) (ov := true) h_
    have q4 : (rightB l) = true := q4
    obtain ⟨q5, h_⟩ := h_
    have q5 : (Ll.len p) ≤ (26 : Int) := q5
    replace h_ : K_ (.exit 0) (hdL (bodyAt Try.prog 14 [false, true, false, true, true, true, true]) T_ (kills [] M_) 51 5 [(3, .p 1 0), (1, .i .i64 f), (2, .i .i64 t), (7, .p 3 0), (8, .ls true 4 (Ll.len p))] [(0, .list 0 [.int .i64, .int .i64] false l), (1, .row 24 [.ls false 0 (Ll.len l)]), (4, .list 2 [.int .i64] true p)] [(9, .i .i64 (Ll.len p))] [(3, .row 29 [.i .i64 (pf maxL valLo l p (valLo l f) p.length), .i .i64 (pf maxL valHi l p (valHi l f) p.length)])] [] [] (addW ([] ++ [3]) wr_)) := h_
    have hx1 : K_ (.exit 0) (hdL (bodyAt Try.prog 14 [false, true, false, true, true, true, true]) T_ (kills [] M_) 51 5 [(3, .p 1 0), (1, .i .i64 f), (2, .i .i64 t), (7, .p 3 0), (8, .ls true 4 (Ll.len p))] [(0, .list 0 [.int .i64, .int .i64] false l), (1, .row 24 [.ls false 0 (Ll.len l)]), (4, .list 2 [.int .i64] true p)] [(9, .i .i64 (Ll.len p))] [(3, .row 29 [.i .i64 (pf maxL valLo l p (valLo l f) p.length), .i .i64 (pf maxL valHi l p (valHi l f) p.length)])] [] [] (addW ([] ++ [3]) wr_)) := by
      have h2 := h_
      exact h2
    refine loop_ruleL (fs := fsv) (ov := true) (s := ⟨T_, 51, M_, 5, wr_⟩) (X := Int × Int × Int) (B := [3]) (mv := []) (kt := [(3, .p 1 0), (1, .i .i64 f), (2, .i .i64 t), (7, .p 3 0), (8, .ls true 4 (Ll.len p))]) (kr := [(0, .list 0 [.int .i64, .int .i64] false l), (1, .row 24 [.ls false 0 (Ll.len l)]), (4, .list 2 [.int .i64] true p)]) (ty := []) (x := (i_0, z1_0, z2_0))
      (Inv := (fun x_ : Int × Int × Int => match x_ with | (i, z1, z2) => 0 ≤ i ∧ i ≤ Ll.len p ∧ z1 = pf maxL valLo l p (valLo l f) i.toNat ∧ z2 = pf maxL valHi l p (valHi l f) i.toNat)) (μ := (fun x_ : Int × Int × Int => match x_ with | (i, z1, z2) => (26 - i).toNat)) (ts := tsOf [9] []) (sl := (fun x_ : Int × Int × Int => match x_ with | (i, z1, z2) => [.i .i64 i])) (bl := (fun x_ : Int × Int × Int => match x_ with | (i, z1, z2) => [.row 29 [.i .i64 z1, .i .i64 z2]])) (ll := (fun x_ : Int × Int × Int => match x_ with | (i, z1, z2) => [])) (Q := fun e_ vs_ os_ hs_ => K_ e_ (hdL (bodyAt Try.prog 14 [false, true, false, true, true, true, true]) T_ (kills [] M_) 51 5 [(3, .p 1 0), (1, .i .i64 f), (2, .i .i64 t), (7, .p 3 0), (8, .ls true 4 (Ll.len p))] [(0, .list 0 [.int .i64, .int .i64] false l), (1, .row 24 [.ls false 0 (Ll.len l)]), (4, .list 2 [.int .i64] true p)] (((tsOf [9] []) e_).zip vs_) ([3].zip os_) [] hs_ (addW ([] ++ [3]) wr_)))
      (L := LL) (U := 30) (cs := sCall Try.prog 30 (spOf spRV) noLoop 20) (call := CN Try.prog AW m_) (lp := noLoop 14) (root := c0_) (p := [false, true, false, true, true, true, true])
      (show CallSOK _ _ from by
        have := sCall_ok (P := Try.prog) (d := m_ - 20) (U := 30) (lp := noLoop) (spRV_ok (ov := true) (d := m_ - 20) (by omega)) (spRV_aw (fs := fsv) (ov := true)) (noLoop_ok) (by decide) 20
        rwa [show 20 + (m_ - 20) = m_ by omega] at this) (fun p f h => by cases h) (by decide) hc_
      (by
        rintro ⟨i, z1, z2⟩ o ho
        simp only [List.mem_cons, List.not_mem_nil, or_false] at ho
        rcases ho with rfl
        · rfl)
      (fun x hx => by
        simp only [List.mem_cons, List.not_mem_nil, or_false] at hx
        rcases hx with rfl
        · exact ⟨_, g9, rfl⟩) (fun x hx => by cases hx) (fun x hx => by
        simp only [List.mem_cons, List.not_mem_nil, or_false] at hx
        rcases hx with rfl
        · simp)
      (fun x hx => by
        simp only [List.mem_cons, List.not_mem_nil, or_false] at hx
        rcases hx with rfl | rfl | rfl | rfl | rfl
        · exact g0
        · exact g1
        · exact g2
        · exact g3
        · exact g4) (fun x hx => by
        simp only [List.mem_cons, List.not_mem_nil, or_false] at hx
        rcases hx with rfl | rfl | rfl
        · exact ⟨g5, by simp⟩
        · exact ⟨g6, by simp⟩
        · exact ⟨g7, by simp⟩) ?_ (fun _ _ _ _ _ h => h) ?_ ?_ ?_ hs_
    · rintro ⟨i, z1, z2⟩ hI
      exact rmso_go f t l p i z1 z2 i_0 z1_0 z2_0 q1 q2 q3 T_ (kills [] M_) _ q4 q5 hI (fun i' z1' z2' ha hb => ⟨(i', z1', z2'), ha, hb, rfl, rfl, rfl⟩) (⟨by simp [SO.mine], hx1⟩)
    · show 0 ≤ i_0 ∧ i_0 ≤ Ll.len p ∧ z1_0 = pf maxL valLo l p (valLo l f) i_0.toNat ∧ z2_0 = pf maxL valHi l p (valHi l f) i_0.toNat
      exact ⟨by omega, by have : (0 : Int) ≤ Ll.len p := Int.natCast_nonneg _; omega, by rw [q2, q1]; rfl, by rw [q3, q1]; rfl⟩
    · show (26 - i_0).toNat < LL
      exact Nat.lt_of_le_of_lt (show _ ≤ 1000 by omega) (by decide)
    · exact ⟨⟨[.i .i64 i_0], [.row 29 [.i .i64 z1_0, .i .i64 z2_0]], [], [], by simp [gets, tsOf, g0, g1, g2, g3, g4, g5, g6, g7, g8, g9], by simp [gets, g0, g1, g2, g3, g4, g5, g6, g7, g8, g9], rfl, rfl, by simp [listsOf] <;> rfl⟩⟩
  · exact h_.elim
theorem rmsb_eq (f t i z1 z2 : Int) (l p : Ll) (T : Al (SV (stdA fsv true))) (M : Al (SO (stdA fsv true))) (KK : Ex → List (SV (stdA fsv true)) → List (SO (stdA fsv true)) → List Ll → Prop) : sCode Try.prog (sCall Try.prog 30 (spOf spRV) noLoop 20) (noLoop 14) 30 (false :: [false, true, false, true, true, true, true]) (bodyAt Try.prog 14 [false, true, false, true, true, true, true]) (hdL (bodyAt Try.prog 14 [false, true, false, true, true, true, true]) T M 51 5 [(3, .p 1 0), (1, .i .i64 f), (2, .i .i64 t), (7, .p 3 0), (8, .ls false 4 (Ll.len p))] [(0, .list 0 [.int .i64, .int .i64] false l), (1, .row 24 [.ls false 0 (Ll.len l)]), (4, .list 2 [.int .i64] false p)] [(9, .i .i64 i)] [(3, .row 29 [.i .i64 z1, .i .i64 z2])] [] [] []) (outL 5 (tsOf [9] []) [3] [] [] KK) =
  (cond (decide (i < (Ll.len p)))
 ((0 : Int) ≤ i ∧ (i < (Ll.len p) ∧ (i < (Ll.len p) ∧ ((Ll.len l) = (Ll.len l) ∧ (cond (rightB l)
 (InK .i64 (i + (1 : Int)) ∧ (KK .normal [(.i .i64 (i + (1 : Int)))] [(.row 29 [(.i .i64 (maxL z1 (valLo l (Ll.get p i 0)))), (.i .i64 (maxL z2 (valHi l (Ll.get p i 0))))])] []))
 False)))))
 (KK (.exit 0) [(.i .i64 i)] [(.row 29 [(.i .i64 z1), (.i .i64 z2)])] [])) := by kernel_rfl
theorem rmsb_go (f : Int) (t : Int) (l : Ll) (p : Ll) (i : Int) (z1 : Int) (z2 : Int) (i_0 : Int) (z1_0 : Int) (z2_0 : Int) (r1 : i_0 = (0 : Int)) (r2 : z1_0 = (valLo l f)) (r3 : z2_0 = (valHi l f)) (T : Al (SV (stdA fsv true))) (M : Al (SO (stdA fsv true))) (KK : Ex → List (SV (stdA fsv true)) → List (SO (stdA fsv true)) → List Ll → Prop) (p1 : (rightB l) = true) (p2 : (Ll.len p) ≤ (26 : Int)) (hI : 0 ≤ i ∧ i ≤ Ll.len p ∧ z1 = pf maxL valLo l p (valLo l f) i.toNat ∧ z2 = pf maxL valHi l p (valHi l f) i.toNat) (hn : ∀ (i' : Int) (z1' : Int) (z2' : Int), 0 ≤ i' ∧ i' ≤ Ll.len p ∧ z1' = pf maxL valLo l p (valLo l f) i'.toNat ∧ z2' = pf maxL valHi l p (valHi l f) i'.toNat → (26 - i').toNat < (26 - i).toNat → KK .normal [.i .i64 i'] [.row 29 [.i .i64 z1', .i .i64 z2']] []) (hx1 : KK (.exit 0) [.i .i64 (Ll.len p)] [.row 29 [.i .i64 (pf maxL valLo l p (valLo l f) p.length), .i .i64 (pf maxL valHi l p (valHi l f) p.length)]] []) :
    sCode Try.prog (sCall Try.prog 30 (spOf spRV) noLoop 20) (noLoop 14) 30 (false :: [false, true, false, true, true, true, true]) (bodyAt Try.prog 14 [false, true, false, true, true, true, true]) (hdL (bodyAt Try.prog 14 [false, true, false, true, true, true, true]) T M 51 5 [(3, .p 1 0), (1, .i .i64 f), (2, .i .i64 t), (7, .p 3 0), (8, .ls false 4 (Ll.len p))] [(0, .list 0 [.int .i64, .int .i64] false l), (1, .row 24 [.ls false 0 (Ll.len l)]), (4, .list 2 [.int .i64] false p)] [(9, .i .i64 i)] [(3, .row 29 [.i .i64 z1, .i .i64 z2])] [] [] []) (outL 5 (tsOf [9] []) [3] [] [] KK) := by
  refine Eq.mpr (rmsb_eq f t i z1 z2 l p T M KK) ?_
  have hl : Ll.len p = (p.length : Int) := rfl
  obtain ⟨i0, i1, rfl, rfl⟩ := hI
  by_cases h : i < Ll.len p
  · have s0 := pf_succ maxL valLo l p (valLo l f) i0
    have s1 := pf_succ maxL valHi l p (valHi l f) i0
    have hn' := hn (i + 1) _ _ ⟨by omega, by omega, rfl, rfl⟩ (by omega)
    rw [s0, s1] at hn'
    rw [decide_eq_true h, p1]
    clear hn hx1 s0 s1
    repeat' (first | exact hn' | apply And.intro)
    all_goals first | trivial | omega | (rw [InK64]; omega)
  · rw [decide_eq_false h]
    obtain rfl : i = Ll.len p := by omega
    exact hx1
abbrev rmsbF {A : Go.Rx.Alg} : Code → Go.Rx.SS A → (Go.Rx.Ex → Go.Rx.SS A → A.R) → A.R := fun c_ s_ K_ => match s_.T.get 3, s_.T.get 1, s_.T.get 2, s_.T.get 7, s_.T.get 8, s_.H.get 0, s_.H.get 1, s_.H.get 4, s_.T.get 9, s_.H.get 3 with
  | some (.p 1 0), some (.i .i64 f), some (.i .i64 t), some (.p 3 0), some (.ls false 4 m1), some (.list t2 k2 false l), some (.row t3 [.ls false 0 m4]), some (.list t5 k5 false p), some (.i .i64 i), some (.row t6 [.i .i64 z1, .i .i64 z2]) => bif (((((((Nat.beq s_.N 51 && Nat.beq s_.nx 5) && Nat.beq t2 0) && decide (k2 = [.int .i64, .int .i64])) && Nat.beq t3 24) && Nat.beq t5 2) && decide (k5 = [.int .i64])) && Nat.beq t6 29) then (A.need .eql m1 (A.len p) (A.need .eql m4 (A.len l) (A.need .eql i (A.lit 0) (A.need .eql z1 (A.app 4 [l] [f]) (A.need .eql z2 (A.app 5 [l] [f]) (A.br (A.appB 32 [l] []) (fun _ => (A.need .leq (A.len p) (A.lit 26) (K_ (.exit 0) (Go.Rx.hdL c_ s_.T (Go.Rx.kills [] s_.H) 51 5 [(3, .p 1 0), (1, .i .i64 f), (2, .i .i64 t), (7, .p 3 0), (8, .ls false 4 (A.len p))] [(0, .list 0 [.int .i64, .int .i64] false l), (1, .row 24 [.ls false 0 (A.len l)]), (4, .list 2 [.int .i64] false p)] [(9, .i .i64 (A.len p))] [(3, .row 29 [.i .i64 (A.app 25 [l, p] [f]), .i .i64 (A.app 26 [l, p] [f])])] [] [] (Go.Rx.addW ([] ++ [3]) s_.wr))))) (fun _ => A.fail "pre"))))))) else A.fail "frame of rmsb"
  | _, _, _, _, _, _, _, _, _, _ => A.fail "rmsb"
theorem rmsbF_ok {d : Nat} (hd : 400 ≤ d) : LoopOK (fs := fsv) (ov := true) Try.prog AW d 14 [false, true, false, true, true, true, true] rmsbF := by
  intro m_ hm_ fn_ c0_ hfn_ hb_ c_ ro_ hc_ s_ K_ W_ ν_ S_ h_ hs_
  obtain rfl := body_of hfn_ hb_ hc_
  unfold rmsbF at h_
  split at h_
  · rename_i f_0 t_0 m1_0 t2 k2 l_0 t3 m4_0 t5 k5 p_0 i_0_0 t6 z1_0_0 z2_0_0 g0 g1 g2 g3 g4 g5 g6 g7 g8 g9
    obtain ⟨f, rfl⟩ : ∃ q : Int, q = f_0 := ⟨f_0, rfl⟩
    obtain ⟨t, rfl⟩ : ∃ q : Int, q = t_0 := ⟨t_0, rfl⟩
    obtain ⟨m1, rfl⟩ : ∃ q : Int, q = m1_0 := ⟨m1_0, rfl⟩
    obtain ⟨l, rfl⟩ : ∃ q : Ll, q = l_0 := ⟨l_0, rfl⟩
    obtain ⟨m4, rfl⟩ : ∃ q : Int, q = m4_0 := ⟨m4_0, rfl⟩
    obtain ⟨p, rfl⟩ : ∃ q : Ll, q = p_0 := ⟨p_0, rfl⟩
    obtain ⟨i_0, rfl⟩ : ∃ q : Int, q = i_0_0 := ⟨i_0_0, rfl⟩
    obtain ⟨z1_0, rfl⟩ : ∃ q : Int, q = z1_0_0 := ⟨z1_0_0, rfl⟩
    obtain ⟨z2_0, rfl⟩ : ∃ q : Int, q = z2_0_0 := ⟨z2_0_0, rfl⟩
    obtain ⟨T_, FN_, M_, snx_, wr_⟩ := s_
    have hN : (((((((Nat.beq FN_ 51 && Nat.beq snx_ 5) && Nat.beq t2 0) && decide (k2 = [.int .i64, .int .i64])) && Nat.beq t3 24) && Nat.beq t5 2) && decide (k5 = [.int .i64])) && Nat.beq t6 29) = true := by
      cases hq : ((((((((Nat.beq FN_ 51 && Nat.beq snx_ 5) && Nat.beq t2 0) && decide (k2 = [.int .i64, .int .i64])) && Nat.beq t3 24) && Nat.beq t5 2) && decide (k5 = [.int .i64])) && Nat.beq t6 29) : Bool) with
      | true => rfl
      | false => (rw [hq] at h_; exact h_.elim)
    rw [hN, cond_true] at h_
    simp only [Bool.and_eq_true, beq_iff, decide_eq_true_eq] at hN
    obtain ⟨⟨⟨⟨⟨⟨⟨rfl, rfl⟩, rfl⟩, rfl⟩, rfl⟩, rfl⟩, rfl⟩, rfl⟩ := hN
    obtain ⟨q0, h_⟩ := h_
    obtain rfl : m1 = (Ll.len p) := q0
    obtain ⟨q0, h_⟩ := h_
    obtain rfl : m4 = (Ll.len l) := q0
    obtain ⟨q1, h_⟩ := h_
    have q1 : i_0 = (0 : Int) := q1
    obtain ⟨q2, h_⟩ := h_
    have q2 : z1_0 = (valLo l f) := q2
    obtain ⟨q3, h_⟩ := h_
    have q3 : z2_0 = (valHi l f) := q3
    obtain ⟨q4, h_⟩ := br_pre (fs := fsv) (ov := true) h_
    have q4 : (rightB l) = true := q4
    obtain ⟨q5, h_⟩ := h_
    have q5 : (Ll.len p) ≤ (26 : Int) := q5
    replace h_ : K_ (.exit 0) (hdL (bodyAt Try.prog 14 [false, true, false, true, true, true, true]) T_ (kills [] M_) 51 5 [(3, .p 1 0), (1, .i .i64 f), (2, .i .i64 t), (7, .p 3 0), (8, .ls false 4 (Ll.len p))] [(0, .list 0 [.int .i64, .int .i64] false l), (1, .row 24 [.ls false 0 (Ll.len l)]), (4, .list 2 [.int .i64] false p)] [(9, .i .i64 (Ll.len p))] [(3, .row 29 [.i .i64 (pf maxL valLo l p (valLo l f) p.length), .i .i64 (pf maxL valHi l p (valHi l f) p.length)])] [] [] (addW ([] ++ [3]) wr_)) := h_
    have hx1 : K_ (.exit 0) (hdL (bodyAt Try.prog 14 [false, true, false, true, true, true, true]) T_ (kills [] M_) 51 5 [(3, .p 1 0), (1, .i .i64 f), (2, .i .i64 t), (7, .p 3 0), (8, .ls false 4 (Ll.len p))] [(0, .list 0 [.int .i64, .int .i64] false l), (1, .row 24 [.ls false 0 (Ll.len l)]), (4, .list 2 [.int .i64] false p)] [(9, .i .i64 (Ll.len p))] [(3, .row 29 [.i .i64 (pf maxL valLo l p (valLo l f) p.length), .i .i64 (pf maxL valHi l p (valHi l f) p.length)])] [] [] (addW ([] ++ [3]) wr_)) := by
      have h2 := h_
      exact h2
    refine loop_ruleL (fs := fsv) (ov := true) (s := ⟨T_, 51, M_, 5, wr_⟩) (X := Int × Int × Int) (B := [3]) (mv := []) (kt := [(3, .p 1 0), (1, .i .i64 f), (2, .i .i64 t), (7, .p 3 0), (8, .ls false 4 (Ll.len p))]) (kr := [(0, .list 0 [.int .i64, .int .i64] false l), (1, .row 24 [.ls false 0 (Ll.len l)]), (4, .list 2 [.int .i64] false p)]) (ty := []) (x := (i_0, z1_0, z2_0))
      (Inv := (fun x_ : Int × Int × Int => match x_ with | (i, z1, z2) => 0 ≤ i ∧ i ≤ Ll.len p ∧ z1 = pf maxL valLo l p (valLo l f) i.toNat ∧ z2 = pf maxL valHi l p (valHi l f) i.toNat)) (μ := (fun x_ : Int × Int × Int => match x_ with | (i, z1, z2) => (26 - i).toNat)) (ts := tsOf [9] []) (sl := (fun x_ : Int × Int × Int => match x_ with | (i, z1, z2) => [.i .i64 i])) (bl := (fun x_ : Int × Int × Int => match x_ with | (i, z1, z2) => [.row 29 [.i .i64 z1, .i .i64 z2]])) (ll := (fun x_ : Int × Int × Int => match x_ with | (i, z1, z2) => [])) (Q := fun e_ vs_ os_ hs_ => K_ e_ (hdL (bodyAt Try.prog 14 [false, true, false, true, true, true, true]) T_ (kills [] M_) 51 5 [(3, .p 1 0), (1, .i .i64 f), (2, .i .i64 t), (7, .p 3 0), (8, .ls false 4 (Ll.len p))] [(0, .list 0 [.int .i64, .int .i64] false l), (1, .row 24 [.ls false 0 (Ll.len l)]), (4, .list 2 [.int .i64] false p)] (((tsOf [9] []) e_).zip vs_) ([3].zip os_) [] hs_ (addW ([] ++ [3]) wr_)))
      (L := LL) (U := 30) (cs := sCall Try.prog 30 (spOf spRV) noLoop 20) (call := CN Try.prog AW m_) (lp := noLoop 14) (root := c0_) (p := [false, true, false, true, true, true, true])
      (show CallSOK _ _ from by
        have := sCall_ok (P := Try.prog) (d := m_ - 20) (U := 30) (lp := noLoop) (spRV_ok (ov := true) (d := m_ - 20) (by omega)) (spRV_aw (fs := fsv) (ov := true)) (noLoop_ok) (by decide) 20
        rwa [show 20 + (m_ - 20) = m_ by omega] at this) (fun p f h => by cases h) (by decide) hc_
      (by
        rintro ⟨i, z1, z2⟩ o ho
        simp only [List.mem_cons, List.not_mem_nil, or_false] at ho
        rcases ho with rfl
        · rfl)
      (fun x hx => by
        simp only [List.mem_cons, List.not_mem_nil, or_false] at hx
        rcases hx with rfl
        · exact ⟨_, g9, rfl⟩) (fun x hx => by cases hx) (fun x hx => by
        simp only [List.mem_cons, List.not_mem_nil, or_false] at hx
        rcases hx with rfl
        · simp)
      (fun x hx => by
        simp only [List.mem_cons, List.not_mem_nil, or_false] at hx
        rcases hx with rfl | rfl | rfl | rfl | rfl
        · exact g0
        · exact g1
        · exact g2
        · exact g3
        · exact g4) (fun x hx => by
        simp only [List.mem_cons, List.not_mem_nil, or_false] at hx
        rcases hx with rfl | rfl | rfl
        · exact ⟨g5, by simp⟩
        · exact ⟨g6, by simp⟩
        · exact ⟨g7, by simp⟩) ?_ (fun _ _ _ _ _ h => h) ?_ ?_ ?_ hs_
    · rintro ⟨i, z1, z2⟩ hI
      exact rmsb_go f t l p i z1 z2 i_0 z1_0 z2_0 q1 q2 q3 T_ (kills [] M_) _ q4 q5 hI (fun i' z1' z2' ha hb => ⟨(i', z1', z2'), ha, hb, rfl, rfl, rfl⟩) (⟨by simp [SO.mine], hx1⟩)
    · show 0 ≤ i_0 ∧ i_0 ≤ Ll.len p ∧ z1_0 = pf maxL valLo l p (valLo l f) i_0.toNat ∧ z2_0 = pf maxL valHi l p (valHi l f) i_0.toNat
      exact ⟨by omega, by have : (0 : Int) ≤ Ll.len p := Int.natCast_nonneg _; omega, by rw [q2, q1]; rfl, by rw [q3, q1]; rfl⟩
    · show (26 - i_0).toNat < LL
      exact Nat.lt_of_le_of_lt (show _ ≤ 1000 by omega) (by decide)
    · exact ⟨⟨[.i .i64 i_0], [.row 29 [.i .i64 z1_0, .i .i64 z2_0]], [], [], by simp [gets, tsOf, g0, g1, g2, g3, g4, g5, g6, g7, g8, g9], by simp [gets, g0, g1, g2, g3, g4, g5, g6, g7, g8, g9], rfl, rfl, by simp [listsOf] <;> rfl⟩⟩
  · exact h_.elim
abbrev rmsF {A : Go.Rx.Alg} : Code → Go.Rx.SS A → (Go.Rx.Ex → Go.Rx.SS A → A.R) → A.R := fun c s K => match s.T.get 8 with
  | some (.ls true _ _) => rmsoF c s K
  | _ => rmsbF c s K
theorem rmsF_ok {d : Nat} (hd : 400 ≤ d) : LoopOK (fs := fsv) (ov := true) Try.prog AW d 14 [false, true, false, true, true, true, true] rmsF := by
  intro m hm fn c0 h1 h2 c ro h3 s K W ν S h hs
  unfold rmsF at h
  split at h
  · exact rmsoF_ok hd m hm fn c0 h1 h2 c ro h3 s K W ν S h hs
  · exact rmsbF_ok hd m hm fn c0 h1 h2 c ro h3 s K W ν S h hs
abbrev lpRls {A : Go.Rx.Alg} : Nat → Go.Rx.LoopS A := Go.Rx.lpOf [(30, [false, true, false, true, true], innF), (12, [false, true, false, true, true, true, true], rlsF)]
theorem lpRls_ok {d : Nat} (hd : 400 ≤ d) : LoopsAll (fs := fsv) (ov := true) Try.prog AW d lpRls := lpOf_ok fun x hx => by
  simp only [List.mem_cons, List.not_mem_nil, or_false] at hx
  rcases hx with rfl | rfl
  · exact innF_ok (by omega)
  · exact rlsF_ok (by omega)
abbrev lpRms {A : Go.Rx.Alg} : Nat → Go.Rx.LoopS A := Go.Rx.lpOf [(30, [false, true, false, true, true], innF), (14, [false, true, false, true, true, true, true], rmsF)]
theorem lpRms_ok {d : Nat} (hd : 400 ≤ d) : LoopsAll (fs := fsv) (ov := true) Try.prog AW d lpRms := lpOf_ok fun x hx => by
  simp only [List.mem_cons, List.not_mem_nil, or_false] at hx
  rcases hx with rfl | rfl
  · exact innF_ok (by omega)
  · exact rmsF_ok (by omega)
theorem rleast_eq (f t : Int) (l : Ll) (KK : KS (stdA fsv true)) : sFunc Try.prog 30 (sCall Try.prog 30 (spOf spRV) lpRls 20) lpRls 12 [.agg [.ls false 0 (Ll.len l)], .i .i64 f, .i .i64 t] (lsMem 0 [([.int .i64, .int .i64], l)]) 1 KK =
  ((Ll.len l) = (Ll.len l) ∧ (cond (!(rightB l))
 (KK (.agg [(.i .i64 (0 : Int)), (.i .i64 (0 : Int))]) (lsMem 0 [([.int .i64, .int .i64], l)]) 1 [])
 (cond (decide (f > t))
 (KK (.agg [(.i .i64 (0 : Int)), (.i .i64 (0 : Int))]) (lsMem 0 [([.int .i64, .int .i64], l)]) 1 [])
 ((Ll.len l) = (Ll.len l) ∧ (cond (rightB l)
 ((Ll.len l) = (Ll.len l) ∧ (f = f ∧ (t = t ∧ ((0 : Int) = (0 : Int) ∧ ((Ll.len l) ≤ (24 : Int) ∧ (cond (decide (anyI l f t < l.length))
 ((Ll.len (inPl l f t l.length)) = (Ll.len (inPl l f t l.length)) ∧ ((Ll.len (inPl l f t l.length)) = (Ll.len (inPl l f t l.length)) ∧ ((Ll.len l) = (Ll.len l) ∧ ((0 : Int) = (0 : Int) ∧ ((valLo l f) = (valLo l f) ∧ ((valHi l f) = (valHi l f) ∧ (cond (rightB l)
 ((Ll.len (inPl l f t l.length)) ≤ (26 : Int) ∧ (KK (.agg [(.i .i64 (pf minL valLo l (inPl l f t l.length) (valLo l f) (inPl l f t l.length).length)), (.i .i64 (pf minL valHi l (inPl l f t l.length) (valHi l f) (inPl l f t l.length).length))]) (lsMem 0 [([.int .i64, .int .i64], l)]) 1 []))
 False)))))))
 ((Ll.len ([[f]] ++ [[t]])) = (Ll.len ([[f]] ++ [[t]])) ∧ ((Ll.len l) = (Ll.len l) ∧ ((0 : Int) = (0 : Int) ∧ ((valLo l f) = (valLo l f) ∧ ((valHi l f) = (valHi l f) ∧ (cond (rightB l)
 ((Ll.len ([[f]] ++ [[t]])) ≤ (26 : Int) ∧ (KK (.agg [(.i .i64 (pf minL valLo l ([[f]] ++ [[t]]) (valLo l f) ([[f]] ++ [[t]]).length)), (.i .i64 (pf minL valHi l ([[f]] ++ [[t]]) (valHi l f) ([[f]] ++ [[t]]).length))]) (lsMem 0 [([.int .i64, .int .i64], l)]) 1 []))
 False))))))))))))
 False))))) := by kernel_rfl
theorem rleast_pure {m : Nat} (hm : 500 ≤ m) {H : Hp} {nx : Nat} (f t : Int) {v_l : LV} {l : Ll} (hl_l : IsL H nx [.int .i64, .int .i64] l v_l) : Pure Try.prog AW m 12 [.agg [v_l], .i .i64 f, .i .i64 t] H nx (.agg [.i .i64 (if rightB l = true ∧ f ≤ t then leLo l f t else 0), .i .i64 (if rightB l = true ∧ f ≤ t then leHi l f t else 0)]) := by
  obtain ⟨ν, n1, n2, n3, n4⟩ := ls_in (fs := fsv) (ov := true) (l := [([.int .i64, .int .i64], l)]) (lvs := [v_l]) 0 (fun i x lv e1 e2 => by
    cases i with
    | zero => simp at e1 e2; subst e1 e2; exact hl_l
    | succ i =>
      simp at e1) rfl
  refine pure_of (n := 20) (d := m - 21) (U := 30) (fs := fsv) (ov := true) (spRV_ok (by omega)) spRV_aw (lpRls_ok (by omega)) (by decide) (by decide) (by omega) (args := [.agg [.ls false 0 (Ll.len l)], .i .i64 f, .i .i64 t]) (M := lsMem 0 [([.int .i64, .int .i64], l)]) (snx := 1) ?_ (VSL.cons ⟨_, rfl, (VSL.cons (n4 0 _ _ rfl rfl) rfl)⟩ (VSL.cons rfl (VSL.cons rfl rfl))) (hs_in n2 n3)
  rw [rleast_eq]
  cases hb : rightB l
  · exact ⟨by trivial, end_ii (by simp) (by simp)⟩
  · have hl : Ll.len l = (l.length : Int) := rfl
    have hR := right_of hb
    have hlen := hR.len
    have hg := inPl_len (l := l) (f := f) (t := t) l.length
    by_cases h : f > t
    · rw [decide_eq_true h]
      repeat' (first | exact end_ii (if_neg (by omega)).symm (if_neg (by omega)).symm | apply And.intro)
      all_goals first | trivial | omega
    · rw [decide_eq_false h]
      have k0 : pf minL valLo l (inPl l f t l.length) (valLo l f) (inPl l f t l.length).length = if true = true ∧ f ≤ t then leLo l f t else 0 := by
        rw [if_pos ⟨rfl, by omega⟩]; exact pf_in (fun j a b => (val_knot hR a b).1) f t (minL_self _) _ (Nat.le_refl _)
      have k1 : pf minL valHi l (inPl l f t l.length) (valHi l f) (inPl l f t l.length).length = if true = true ∧ f ≤ t then leHi l f t else 0 := by
        rw [if_pos ⟨rfl, by omega⟩]; exact pf_in (fun j a b => (val_knot hR a b).2) f t (minL_self _) _ (Nat.le_refl _)
      have hlp : Ll.len (inPl l f t l.length) ≤ 26 := by show ((List.length _ : Nat) : Int) ≤ 26; omega
      by_cases ha : anyI l f t < l.length
      · rw [decide_eq_true ha]
        repeat' (first | exact end_ii k0 k1 | apply And.intro)
        all_goals first | trivial | omega
      · have hz : inPl l f t l.length = [[f], [t]] := inPl_none fun j a b => (leastN_spec (insB l f t) l.length 0).2.2.1 j a (by unfold anyI at ha; omega)
        rw [hz] at k0 k1
        rw [decide_eq_false ha]
        repeat' (first | exact end_ii k0 k1 | apply And.intro)
        all_goals first | trivial | omega | (show ((2 : Nat) : Int) ≤ 26; omega)
abbrev rleastS {A : Go.Rx.Alg} : List (Go.Rx.SV A) → Go.Rx.SH A → Nat → Go.Rx.KS A → A.R := fun args_ M_ snx_ K_ => match args_ with
  | [.agg [x_l], .i .i64 f, .i .i64 t] => (match Go.Rx.lsArg M_ [.int .i64, .int .i64] x_l with | some (l, n_l) => (A.need .eql n_l (A.len l) (K_ (.agg [.i .i64 (A.app 15 [l] [f, t]), .i .i64 (A.app 16 [l] [f, t])]) M_ snx_ [])) | none => A.fail "rleast")
  | _ => A.fail "rleast"
theorem rleastS_ok {ov : Bool} {d : Nat} (hd : 500 ≤ d) : SpecOK (fs := fsv) (ov := ov) Try.prog AW d 12 rleastS := by
  intro m_ hm_ args_ M_ snx_ K_ h_ ν_ largs_ H_ nx_ ha_ hM_
  unfold rleastS at h_
  split at h_
  · rename_i x_l f t
    obtain ⟨y1, r1, rfl, ⟨l1, rfl, ⟨v_l, r2, rfl, hx_l, rfl⟩⟩, ⟨y3, r3, rfl, rfl, ⟨y4, r4, rfl, rfl, rfl⟩⟩⟩ := ha_
    split at h_
    · rename_i l n_l q_l
      obtain ⟨e_l, h_⟩ := h_
      exact pure_got (rleast_pure (by omega) f t (lsArg_ok hM_ hx_l q_l e_l)) hM_ (v := .agg [.i .i64 _, .i .i64 _]) ⟨_, rfl, (VSL.cons rfl (VSL.cons rfl rfl))⟩ h_
    · exact h_.elim
  · exact h_.elim
theorem rmost_eq (f t : Int) (l : Ll) (KK : KS (stdA fsv true)) : sFunc Try.prog 30 (sCall Try.prog 30 (spOf spRV) lpRms 20) lpRms 14 [.agg [.ls false 0 (Ll.len l)], .i .i64 f, .i .i64 t] (lsMem 0 [([.int .i64, .int .i64], l)]) 1 KK =
  ((Ll.len l) = (Ll.len l) ∧ (cond (!(rightB l))
 (KK (.agg [(.i .i64 (0 : Int)), (.i .i64 (0 : Int))]) (lsMem 0 [([.int .i64, .int .i64], l)]) 1 [])
 (cond (decide (f > t))
 (KK (.agg [(.i .i64 (0 : Int)), (.i .i64 (0 : Int))]) (lsMem 0 [([.int .i64, .int .i64], l)]) 1 [])
 ((Ll.len l) = (Ll.len l) ∧ (cond (rightB l)
 ((Ll.len l) = (Ll.len l) ∧ (f = f ∧ (t = t ∧ ((0 : Int) = (0 : Int) ∧ ((Ll.len l) ≤ (24 : Int) ∧ (cond (decide (anyI l f t < l.length))
 ((Ll.len (inPl l f t l.length)) = (Ll.len (inPl l f t l.length)) ∧ ((Ll.len (inPl l f t l.length)) = (Ll.len (inPl l f t l.length)) ∧ ((Ll.len l) = (Ll.len l) ∧ ((0 : Int) = (0 : Int) ∧ ((valLo l f) = (valLo l f) ∧ ((valHi l f) = (valHi l f) ∧ (cond (rightB l)
 ((Ll.len (inPl l f t l.length)) ≤ (26 : Int) ∧ (KK (.agg [(.i .i64 (pf maxL valLo l (inPl l f t l.length) (valLo l f) (inPl l f t l.length).length)), (.i .i64 (pf maxL valHi l (inPl l f t l.length) (valHi l f) (inPl l f t l.length).length))]) (lsMem 0 [([.int .i64, .int .i64], l)]) 1 []))
 False)))))))
 ((Ll.len ([[f]] ++ [[t]])) = (Ll.len ([[f]] ++ [[t]])) ∧ ((Ll.len l) = (Ll.len l) ∧ ((0 : Int) = (0 : Int) ∧ ((valLo l f) = (valLo l f) ∧ ((valHi l f) = (valHi l f) ∧ (cond (rightB l)
 ((Ll.len ([[f]] ++ [[t]])) ≤ (26 : Int) ∧ (KK (.agg [(.i .i64 (pf maxL valLo l ([[f]] ++ [[t]]) (valLo l f) ([[f]] ++ [[t]]).length)), (.i .i64 (pf maxL valHi l ([[f]] ++ [[t]]) (valHi l f) ([[f]] ++ [[t]]).length))]) (lsMem 0 [([.int .i64, .int .i64], l)]) 1 []))
 False))))))))))))
 False))))) := by kernel_rfl
theorem rmost_pure {m : Nat} (hm : 500 ≤ m) {H : Hp} {nx : Nat} (f t : Int) {v_l : LV} {l : Ll} (hl_l : IsL H nx [.int .i64, .int .i64] l v_l) : Pure Try.prog AW m 14 [.agg [v_l], .i .i64 f, .i .i64 t] H nx (.agg [.i .i64 (if rightB l = true ∧ f ≤ t then moLo l f t else 0), .i .i64 (if rightB l = true ∧ f ≤ t then moHi l f t else 0)]) := by
  obtain ⟨ν, n1, n2, n3, n4⟩ := ls_in (fs := fsv) (ov := true) (l := [([.int .i64, .int .i64], l)]) (lvs := [v_l]) 0 (fun i x lv e1 e2 => by
    cases i with
    | zero => simp at e1 e2; subst e1 e2; exact hl_l
    | succ i =>
      simp at e1) rfl
  refine pure_of (n := 20) (d := m - 21) (U := 30) (fs := fsv) (ov := true) (spRV_ok (by omega)) spRV_aw (lpRms_ok (by omega)) (by decide) (by decide) (by omega) (args := [.agg [.ls false 0 (Ll.len l)], .i .i64 f, .i .i64 t]) (M := lsMem 0 [([.int .i64, .int .i64], l)]) (snx := 1) ?_ (VSL.cons ⟨_, rfl, (VSL.cons (n4 0 _ _ rfl rfl) rfl)⟩ (VSL.cons rfl (VSL.cons rfl rfl))) (hs_in n2 n3)
  rw [rmost_eq]
  cases hb : rightB l
  · exact ⟨by trivial, end_ii (by simp) (by simp)⟩
  · have hl : Ll.len l = (l.length : Int) := rfl
    have hR := right_of hb
    have hlen := hR.len
    have hg := inPl_len (l := l) (f := f) (t := t) l.length
    by_cases h : f > t
    · rw [decide_eq_true h]
      repeat' (first | exact end_ii (if_neg (by omega)).symm (if_neg (by omega)).symm | apply And.intro)
      all_goals first | trivial | omega
    · rw [decide_eq_false h]
      have k0 : pf maxL valLo l (inPl l f t l.length) (valLo l f) (inPl l f t l.length).length = if true = true ∧ f ≤ t then moLo l f t else 0 := by
        rw [if_pos ⟨rfl, by omega⟩]; exact pf_in (fun j a b => (val_knot hR a b).1) f t (maxL_self _) _ (Nat.le_refl _)
      have k1 : pf maxL valHi l (inPl l f t l.length) (valHi l f) (inPl l f t l.length).length = if true = true ∧ f ≤ t then moHi l f t else 0 := by
        rw [if_pos ⟨rfl, by omega⟩]; exact pf_in (fun j a b => (val_knot hR a b).2) f t (maxL_self _) _ (Nat.le_refl _)
      have hlp : Ll.len (inPl l f t l.length) ≤ 26 := by show ((List.length _ : Nat) : Int) ≤ 26; omega
      by_cases ha : anyI l f t < l.length
      · rw [decide_eq_true ha]
        repeat' (first | exact end_ii k0 k1 | apply And.intro)
        all_goals first | trivial | omega
      · have hz : inPl l f t l.length = [[f], [t]] := inPl_none fun j a b => (leastN_spec (insB l f t) l.length 0).2.2.1 j a (by unfold anyI at ha; omega)
        rw [hz] at k0 k1
        rw [decide_eq_false ha]
        repeat' (first | exact end_ii k0 k1 | apply And.intro)
        all_goals first | trivial | omega | (show ((2 : Nat) : Int) ≤ 26; omega)
abbrev rmostS {A : Go.Rx.Alg} : List (Go.Rx.SV A) → Go.Rx.SH A → Nat → Go.Rx.KS A → A.R := fun args_ M_ snx_ K_ => match args_ with
  | [.agg [x_l], .i .i64 f, .i .i64 t] => (match Go.Rx.lsArg M_ [.int .i64, .int .i64] x_l with | some (l, n_l) => (A.need .eql n_l (A.len l) (K_ (.agg [.i .i64 (A.app 17 [l] [f, t]), .i .i64 (A.app 18 [l] [f, t])]) M_ snx_ [])) | none => A.fail "rmost")
  | _ => A.fail "rmost"
theorem rmostS_ok {ov : Bool} {d : Nat} (hd : 500 ≤ d) : SpecOK (fs := fsv) (ov := ov) Try.prog AW d 14 rmostS := by
  intro m_ hm_ args_ M_ snx_ K_ h_ ν_ largs_ H_ nx_ ha_ hM_
  unfold rmostS at h_
  split at h_
  · rename_i x_l f t
    obtain ⟨y1, r1, rfl, ⟨l1, rfl, ⟨v_l, r2, rfl, hx_l, rfl⟩⟩, ⟨y3, r3, rfl, rfl, ⟨y4, r4, rfl, rfl, rfl⟩⟩⟩ := ha_
    split at h_
    · rename_i l n_l q_l
      obtain ⟨e_l, h_⟩ := h_
      exact pure_got (rmost_pure (by omega) f t (lsArg_ok hM_ hx_l q_l e_l)) hM_ (v := .agg [.i .i64 _, .i .i64 _]) ⟨_, rfl, (VSL.cons rfl (VSL.cons rfl rfl))⟩ h_
    · exact h_.elim
  · exact h_.elim
end Go.Proofs.Ytjemcdjigeijbaa
