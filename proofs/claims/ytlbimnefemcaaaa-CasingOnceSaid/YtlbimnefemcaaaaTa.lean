/-
  Layer 5: what tests prove.
-/
import Derived.Test.YtlbimnefemcaaaaKx
import Derived.Test.YtlbimnefemcaaaaTm
import Derived.Test.YtlbimnefemcaaaaFm
set_option linter.unusedSimpArgs false
set_option linter.unusedVariables false
set_option maxRecDepth 100000
namespace Go.Proofs.Ytlbimnefemcaaaa
open Go Go.Rx

abbrev AW : Nat := 11
/-- Only the call of the examples is told of. -/
abbrev sp0 {A : Go.Rx.Alg} : Go.Rx.SpL A := [(AW, Go.Rx.awakeS)]
abbrev fst : Fs where
  i := fun n ls xs => match n, ls, xs with | 1, [l], [since, now] => badI l since now | 2, [l], [need, now, age] => goodI l need now age | 3, [], [a, b] => a % b | _, _, _ => 0
  b := fun n ls xs => match n, ls, xs with | 36, [l], [now] => clB l now | 31, [l], [since, now] => badB l since now | 32, [l], [need, now, age] => decide (goodI l need now age < l.length) | 35, [l], [i, now] => badB l (Ll.get l i 2) now | 33, [l], [need, now, age] => provB l need now age | _, _, _ => false
  l := fun _ _ _ => []
theorem sp0_ok {fs : Fs} {ov : Bool} {d : Nat} : SpOK (fs := fs) (ov := ov) Try.prog AW d sp0 := SpOK.cons awake_ok SpOK.nil
theorem sp0_aw {fs : Fs} {ov : Bool} : (spOf (A := stdA fs ov) sp0 AW).isSome = true := rfl
theorem m64_eq (a b : Int) (KK : KS (stdA fst true)) : sFunc Try.prog 30 (sCall Try.prog 30 (spOf sp0) noLoop 20) noLoop 14 [.i .i64 a, .i .i64 b] .l 0 KK =
  (b ≠ 0 ∧ (cond (decide ((Int.tmod a b) < (0 : Int)))
 (InK .i64 ((Int.tmod a b) + b) ∧ (KK (.i .i64 ((Int.tmod a b) + b)) .l 0 []))
 (KK (.i .i64 (Int.tmod a b)) .l 0 []))) := by kernel_rfl
theorem m64_pure {m : Nat} (hm : 100 ≤ m) {H : Hp} {nx : Nat} (a b : Int) (p1 : (1 : Int) ≤ b) (p2 : b ≤ (9223372036854775807 : Int)) : Pure Try.prog AW m 14 [.i .i64 a, .i .i64 b] H nx (.i .i64 (a % b)) := by
  refine pure_of (n := 20) (d := m - 21) (U := 30) (fs := fst) (ov := true) sp0_ok sp0_aw noLoop_ok (by decide) (by decide) (by omega) (args := [.i .i64 a, .i .i64 b]) (M := .l) (snx := 0) ?_ (VSL.cons rfl (VSL.cons rfl rfl)) hs_empty
  rw [m64_eq]
  simp only [cond_iff, InK64]
  have e0 := Int.emod_nonneg a (show b ≠ 0 by omega)
  have e1 := Int.emod_lt_of_pos a (show 0 < b by omega)
  rcases tmod_cases a b (by omega) with ⟨e, h⟩ | ⟨h, e⟩
  · exact ⟨by omega, fun h => absurd h (by omega), fun h => end_i (by omega)⟩
  · exact ⟨by omega, fun h => ⟨by omega, end_i (by omega)⟩, fun h => absurd h (by omega)⟩
abbrev m64S {A : Go.Rx.Alg} : List (Go.Rx.SV A) → Go.Rx.SH A → Nat → Go.Rx.KS A → A.R := fun args_ M_ snx_ K_ => match args_ with
  | [.i .i64 a, .i .i64 b] => (A.need .leq (A.lit 1) b (A.need .leq b (A.lit 9223372036854775807) (K_ (.i .i64 (A.app 3 [] [a, b])) M_ snx_ [])))
  | _ => A.fail "m64"
theorem m64S_ok {ov : Bool} {d : Nat} (hd : 100 ≤ d) : SpecOK (fs := fst) (ov := ov) Try.prog AW d 14 m64S := by
  intro m_ hm_ args_ M_ snx_ K_ h_ ν_ largs_ H_ nx_ ha_ hM_
  unfold m64S at h_
  split at h_
  · rename_i a b
    obtain ⟨y1, r1, rfl, rfl, ⟨y2, r2, rfl, rfl, rfl⟩⟩ := ha_
    obtain ⟨p1, h_⟩ := h_
    obtain ⟨p2, h_⟩ := h_
    exact pure_got (m64_pure (by omega) a b p1 p2) hM_ (v := .i .i64 _) rfl h_
  · exact h_.elim
theorem inn_eq (since now i : Int) (l : Ll) (T : Al (SV (stdA fst false))) (M : Al (SO (stdA fst false))) (KK : Ex → List (SV (stdA fst false)) → List (SO (stdA fst false)) → List Ll → Prop) : sCode Try.prog (sCall Try.prog 30 (spOf sp0) noLoop 20) (noLoop 83) 30 (false :: [false, true, false, true]) (bodyAt Try.prog 83 [false, true, false, true]) (hdL (bodyAt Try.prog 83 [false, true, false, true]) T M 19 8 [(0, .ls false 0 (Ll.len l)), (7, .i .i64 (Ll.len l)), (1, .fn 41 [] [.p 7 0, .p 3 0])] [(0, .list 0 [.int .i64, .bool, .int .i64] false l), (7, .row 2 [.i .i64 since]), (3, .row 2 [.i .i64 now])] [(8, .i .i64 i)] [] [] [] []) (outL 8 (tsOf [8] [4]) [] [] KK) =
  (cond (decide (i < (Ll.len l)))
 ((0 : Int) ≤ i ∧ (i < (Ll.len l) ∧ (i < (Ll.len l) ∧ (cond (!(Ll.getB l i 1))
 (cond (decide (since ≤ (Ll.get l i 2)))
 (cond (decide ((Ll.get l i 2) ≤ now))
 (KK .ret [(.i .i64 i)] [] [])
 (KK .normal [(.i .i64 (IntKind.wrap .i64 (i + (1 : Int))))] [] []))
 (KK .normal [(.i .i64 (IntKind.wrap .i64 (i + (1 : Int))))] [] []))
 (KK .normal [(.i .i64 (IntKind.wrap .i64 (i + (1 : Int))))] [] [])))))
 (KK (.exit 0) [(.i .i64 i)] [] [])) := by kernel_rfl
theorem inn_go (since : Int) (now : Int) (l : Ll) (i : Int) (T : Al (SV (stdA fst false))) (M : Al (SO (stdA fst false))) (KK : Ex → List (SV (stdA fst false)) → List (SO (stdA fst false)) → List Ll → Prop) (p1 : (Ll.len l) ≤ (24 : Int)) (hI : 0 ≤ i ∧ i ≤ badI l since now) (hn : ∀ (i' : Int), 0 ≤ i' ∧ i' ≤ badI l since now → (24 - i').toNat < (24 - i).toNat → KK .normal [.i .i64 i'] [] []) (hx1 : (badB l since now) = true → KK .ret [.i .i64 (badI l since now)] [] []) (hx2 : (badB l since now) = false → KK (.exit 0) [.i .i64 (Ll.len l)] [] []) :
    sCode Try.prog (sCall Try.prog 30 (spOf sp0) noLoop 20) (noLoop 83) 30 (false :: [false, true, false, true]) (bodyAt Try.prog 83 [false, true, false, true]) (hdL (bodyAt Try.prog 83 [false, true, false, true]) T M 19 8 [(0, .ls false 0 (Ll.len l)), (7, .i .i64 (Ll.len l)), (1, .fn 41 [] [.p 7 0, .p 3 0])] [(0, .list 0 [.int .i64, .bool, .int .i64] false l), (7, .row 2 [.i .i64 since]), (3, .row 2 [.i .i64 now])] [(8, .i .i64 i)] [] [] [] []) (outL 8 (tsOf [8] [4]) [] [] KK) := by
  refine Eq.mpr (inn_eq since now i l T M KK) ?_
  have hl : Ll.len l = (l.length : Int) := rfl
  obtain ⟨i0, i1⟩ := hI
  by_cases h : i < Ll.len l
  · rw [decide_eq_true h]
    refine ⟨by omega, h, h, ?_⟩
    have hs := leastN_step (p := badAt l since now) (k := l.length) i0 i1 (by omega)
    rw [cond3, wrap_id (show -9223372036854775808 ≤ i + 1 by omega) (by omega)]
    show cond (badAt l since now i) _ _
    cases hb : badAt l since now i with
    | true =>
      have e : badI l since now = i := hs.1 hb
      rw [e] at hx1
      exact hx1 (decide_eq_true (by rw [e]; omega))
    | false => exact hn (i + 1) ⟨by omega, hs.2 hb⟩ (by omega)
  · rw [decide_eq_false h]
    obtain ⟨_, a2, _, _⟩ := leastN_spec (badAt l since now) l.length 0
    have a3 : badI l since now ≤ l.length := by unfold badI; omega
    obtain rfl : i = Ll.len l := by omega
    exact hx2 (decide_eq_false (by omega))
abbrev innF {A : Go.Rx.Alg} : Code → Go.Rx.SS A → (Go.Rx.Ex → Go.Rx.SS A → A.R) → A.R := fun c_ s_ K_ => match s_.T.get 0, s_.T.get 7, s_.T.get 1, s_.H.get 0, s_.H.get 7, s_.H.get 3, s_.T.get 8 with
  | some (.ls false 0 m1), some (.i .i64 m2), some (.fn f3 [] [.p 7 0, .p 3 0]), some (.list t4 k4 false l), some (.row t5 [.i .i64 since]), some (.row t6 [.i .i64 now]), some (.i .i64 i) => bif ((((((Nat.beq s_.N 19 && Nat.beq s_.nx 8) && Nat.beq f3 41) && Nat.beq t4 0) && decide (k4 = [.int .i64, .bool, .int .i64])) && Nat.beq t5 2) && Nat.beq t6 2) then (A.need .eql m1 (A.len l) (A.need .eql m2 (A.len l) (A.need .eql i (A.lit 0) (A.need .leq (A.len l) (A.lit 24) ((A.br (A.appB 31 [l] [since, now]) (fun _ => K_ .ret (Go.Rx.hdL c_ s_.T (Go.Rx.kills [] s_.H) 19 8 [(0, .ls false 0 (A.len l)), (7, .i .i64 (A.len l)), (1, .fn 41 [] [.p 7 0, .p 3 0])] [(0, .list 0 [.int .i64, .bool, .int .i64] false l), (7, .row 2 [.i .i64 since]), (3, .row 2 [.i .i64 now])] [(4, .i .i64 (A.app 1 [l] [since, now]))] [] [] [] (Go.Rx.addW ([] ++ []) s_.wr))) (fun _ => K_ (.exit 0) (Go.Rx.hdL c_ s_.T (Go.Rx.kills [] s_.H) 19 8 [(0, .ls false 0 (A.len l)), (7, .i .i64 (A.len l)), (1, .fn 41 [] [.p 7 0, .p 3 0])] [(0, .list 0 [.int .i64, .bool, .int .i64] false l), (7, .row 2 [.i .i64 since]), (3, .row 2 [.i .i64 now])] [(8, .i .i64 (A.len l))] [] [] [] (Go.Rx.addW ([] ++ []) s_.wr))))))))) else A.fail "frame of inn"
  | _, _, _, _, _, _, _ => A.fail "inn"
theorem innF_ok {d : Nat} (hd : 100 ≤ d) : LoopOK (fs := fst) (ov := false) Try.prog AW d 83 [false, true, false, true] innF := by
  intro m_ hm_ fn_ c0_ hfn_ hb_ c_ ro_ hc_ s_ K_ W_ ν_ S_ h_ hs_
  obtain rfl := body_of hfn_ hb_ hc_
  simp only [innF] at h_
  split at h_
  · rename_i m1_0 m2_0 f3 t4 k4 l_0 t5 since_0 t6 now_0 i_0 g0 g1 g2 g3 g4 g5 g6
    obtain ⟨m1, rfl⟩ : ∃ q : Int, q = m1_0 := ⟨m1_0, rfl⟩
    obtain ⟨m2, rfl⟩ : ∃ q : Int, q = m2_0 := ⟨m2_0, rfl⟩
    obtain ⟨l, rfl⟩ : ∃ q : Ll, q = l_0 := ⟨l_0, rfl⟩
    obtain ⟨since, rfl⟩ : ∃ q : Int, q = since_0 := ⟨since_0, rfl⟩
    obtain ⟨now, rfl⟩ : ∃ q : Int, q = now_0 := ⟨now_0, rfl⟩
    obtain ⟨i, rfl⟩ : ∃ q : Int, q = i_0 := ⟨i_0, rfl⟩
    obtain ⟨T_, FN_, M_, snx_, wr_⟩ := s_
    have hN : ((((((Nat.beq FN_ 19 && Nat.beq snx_ 8) && Nat.beq f3 41) && Nat.beq t4 0) && decide (k4 = [.int .i64, .bool, .int .i64])) && Nat.beq t5 2) && Nat.beq t6 2) = true := by
      cases hq : (((((((Nat.beq FN_ 19 && Nat.beq snx_ 8) && Nat.beq f3 41) && Nat.beq t4 0) && decide (k4 = [.int .i64, .bool, .int .i64])) && Nat.beq t5 2) && Nat.beq t6 2) : Bool) with
      | true => rfl
      | false => (rw [hq] at h_; exact h_.elim)
    rw [hN, cond_true] at h_
    simp only [Bool.and_eq_true, beq_iff, decide_eq_true_eq] at hN
    obtain ⟨⟨⟨⟨⟨⟨rfl, rfl⟩, rfl⟩, rfl⟩, rfl⟩, rfl⟩, rfl⟩ := hN
    obtain ⟨q0, h_⟩ := h_
    obtain rfl : m1 = (Ll.len l) := q0
    obtain ⟨q0, h_⟩ := h_
    obtain rfl : m2 = (Ll.len l) := q0
    obtain ⟨q1, h_⟩ := h_
    have q1 : i = (0 : Int) := q1
    obtain ⟨q2, h_⟩ := h_
    have q2 : (Ll.len l) ≤ (24 : Int) := q2
    replace h_ : cond (badB l since now) (K_ .ret (hdL (bodyAt Try.prog 83 [false, true, false, true]) T_ (kills [] M_) 19 8 [(0, .ls false 0 (Ll.len l)), (7, .i .i64 (Ll.len l)), (1, .fn 41 [] [.p 7 0, .p 3 0])] [(0, .list 0 [.int .i64, .bool, .int .i64] false l), (7, .row 2 [.i .i64 since]), (3, .row 2 [.i .i64 now])] [(4, .i .i64 (badI l since now))] [] [] [] (addW ([] ++ []) wr_))) (K_ (.exit 0) (hdL (bodyAt Try.prog 83 [false, true, false, true]) T_ (kills [] M_) 19 8 [(0, .ls false 0 (Ll.len l)), (7, .i .i64 (Ll.len l)), (1, .fn 41 [] [.p 7 0, .p 3 0])] [(0, .list 0 [.int .i64, .bool, .int .i64] false l), (7, .row 2 [.i .i64 since]), (3, .row 2 [.i .i64 now])] [(8, .i .i64 (Ll.len l))] [] [] [] (addW ([] ++ []) wr_))) := h_
    have hx1 : (badB l since now) = true → K_ .ret (hdL (bodyAt Try.prog 83 [false, true, false, true]) T_ (kills [] M_) 19 8 [(0, .ls false 0 (Ll.len l)), (7, .i .i64 (Ll.len l)), (1, .fn 41 [] [.p 7 0, .p 3 0])] [(0, .list 0 [.int .i64, .bool, .int .i64] false l), (7, .row 2 [.i .i64 since]), (3, .row 2 [.i .i64 now])] [(4, .i .i64 (badI l since now))] [] [] [] (addW ([] ++ []) wr_)) := fun e1 => by
      have h2 := h_
      rw [e1] at h2; simp only [cond_true, cond_false] at h2; exact h2
    have hx2 : (badB l since now) = false → K_ (.exit 0) (hdL (bodyAt Try.prog 83 [false, true, false, true]) T_ (kills [] M_) 19 8 [(0, .ls false 0 (Ll.len l)), (7, .i .i64 (Ll.len l)), (1, .fn 41 [] [.p 7 0, .p 3 0])] [(0, .list 0 [.int .i64, .bool, .int .i64] false l), (7, .row 2 [.i .i64 since]), (3, .row 2 [.i .i64 now])] [(8, .i .i64 (Ll.len l))] [] [] [] (addW ([] ++ []) wr_)) := fun e1 => by
      have h2 := h_
      rw [e1] at h2; simp only [cond_true, cond_false] at h2; exact h2
    refine loop_ruleL (fs := fst) (ov := false) (s := ⟨T_, 19, M_, 8, wr_⟩) (X := Int) (B := []) (mv := []) (kt := [(0, .ls false 0 (Ll.len l)), (7, .i .i64 (Ll.len l)), (1, .fn 41 [] [.p 7 0, .p 3 0])]) (kr := [(0, .list 0 [.int .i64, .bool, .int .i64] false l), (7, .row 2 [.i .i64 since]), (3, .row 2 [.i .i64 now])]) (ty := []) (x := (i))
      (Inv := (fun x : Int => match x with | (i) => 0 ≤ i ∧ i ≤ badI l since now)) (μ := (fun x : Int => match x with | (i) => (24 - i).toNat)) (ts := tsOf [8] [4]) (sl := (fun x : Int => match x with | (i) => [.i .i64 i])) (bl := (fun x : Int => match x with | (i) => [])) (ll := (fun x : Int => match x with | (i) => [])) (Q := fun e_ vs_ os_ hs_ => K_ e_ (hdL (bodyAt Try.prog 83 [false, true, false, true]) T_ (kills [] M_) 19 8 [(0, .ls false 0 (Ll.len l)), (7, .i .i64 (Ll.len l)), (1, .fn 41 [] [.p 7 0, .p 3 0])] [(0, .list 0 [.int .i64, .bool, .int .i64] false l), (7, .row 2 [.i .i64 since]), (3, .row 2 [.i .i64 now])] (((tsOf [8] [4]) e_).zip vs_) ([].zip os_) [] hs_ (addW ([] ++ []) wr_)))
      (L := LL) (U := 30) (cs := sCall Try.prog 30 (spOf sp0) noLoop 20) (call := CN Try.prog AW m_) (lp := noLoop 83) (root := c0_) (p := [false, true, false, true])
      (show CallSOK _ _ from by
        have := sCall_ok (P := Try.prog) (d := m_ - 20) (U := 30) (lp := noLoop) (sp0_ok (fs := fst) (ov := false) (d := m_ - 20)) (sp0_aw (fs := fst) (ov := false)) (noLoop_ok) (by decide) 20
        rwa [show 20 + (m_ - 20) = m_ by omega] at this) (fun p f h => by cases h) (by decide) hc_
      (fun x o ho => by cases ho)
      (fun x hx => by cases hx) (fun x hx => by cases hx) (fun x hx => by cases hx)
      (fun x hx => by
        simp only [List.mem_cons, List.not_mem_nil, or_false] at hx
        rcases hx with rfl | rfl | rfl
        · exact g0
        · exact g1
        · exact g2) (fun x hx => by
        simp only [List.mem_cons, List.not_mem_nil, or_false] at hx
        rcases hx with rfl | rfl | rfl
        · exact ⟨g3, by simp⟩
        · exact ⟨g4, by simp⟩
        · exact ⟨g5, by simp⟩) ?_ (fun _ _ _ _ _ h => h) ?_ ?_ ?_ hs_
    · rintro i hI
      exact inn_go since now l i T_ (kills [] M_) _ q2 hI (fun i' ha hb => ⟨(i'), ha, hb, rfl, rfl, rfl⟩) (fun e1 => ⟨by simp [SO.mine], hx1 e1⟩) (fun e1 => ⟨by simp [SO.mine], hx2 e1⟩)
    · show 0 ≤ i ∧ i ≤ badI l since now
      exact ⟨by omega, by rw [q1]; exact (leastN_spec (badAt l since now) l.length 0).1⟩
    · show (24 - i).toNat < LL
      exact Nat.lt_of_le_of_lt (show _ ≤ 1000 by omega) (by decide)
    · exact ⟨⟨[.i .i64 i], [], [], [], by simp [gets, tsOf, g0, g1, g2, g3, g4, g5, g6], by simp [gets, g0, g1, g2, g3, g4, g5, g6], rfl, rfl, by simp [listsOf] <;> rfl⟩⟩
  · exact h_.elim
abbrev lpI {A : Go.Rx.Alg} : Nat → Go.Rx.LoopS A := Go.Rx.lpOf [(83, [false, true, false, true], innF)]
theorem lpI_ok {d : Nat} (hd : 100 ≤ d) : LoopsAll (fs := fst) (ov := false) Try.prog AW d lpI := lpOf_ok fun x hx => by
  simp only [List.mem_cons, List.not_mem_nil, or_false] at hx
  rcases hx with rfl
  · exact innF_ok (by omega)
theorem out_eq (need now age i : Int) (l : Ll) (T : Al (SV (stdA fst false))) (M : Al (SO (stdA fst false))) (KK : Ex → List (SV (stdA fst false)) → List (SO (stdA fst false)) → List Ll → Prop) : sCode Try.prog (sCall Try.prog 30 (spOf sp0) lpI 20) (lpI 83) 30 (false :: [false, true, false, true]) (bodyAt Try.prog 83 [false, true, false, true]) (hdL (bodyAt Try.prog 83 [false, true, false, true]) T M 19 6 [(0, .ls false 0 (Ll.len l)), (7, .i .i64 (Ll.len l)), (1, .fn 42 [] [.p 2 0, .p 3 0, .p 4 0, .p 5 0])] [(0, .list 0 [.int .i64, .bool, .int .i64] false l), (1, .row 22 [.ls false 0 (Ll.len l)]), (2, .row 2 [.i .i64 need]), (3, .row 2 [.i .i64 now]), (4, .row 2 [.i .i64 age]), (5, .row 76 [.fn 39 [] [.p 1 0, .p 3 0]])] [(8, .i .i64 i)] [] [] [] []) (outL 6 (tsOf [8] [4]) [] [] KK) =
  (cond (decide (i < (Ll.len l)))
 ((0 : Int) ≤ i ∧ (i < (Ll.len l) ∧ (i < (Ll.len l) ∧ (cond (Ll.getB l i 1)
 (cond (decide ((Ll.get l i 0) ≥ need))
 (cond (decide ((Ll.get l i 2) ≤ now))
 (cond (decide ((IntKind.wrap .u64 ((IntKind.wrap .u64 now) - (IntKind.wrap .u64 (Ll.get l i 2)))) ≤ (IntKind.wrap .u64 age)))
 ((Ll.len l) = (Ll.len l) ∧ ((Ll.len l) = (Ll.len l) ∧ ((0 : Int) = (0 : Int) ∧ ((Ll.len l) ≤ (24 : Int) ∧ (cond (badB l (Ll.get l i 2) now)
 (cond (!(decide ((badI l (Ll.get l i 2) now) ≥ (0 : Int))))
 (KK .ret [(.i .i64 i)] [] [])
 (KK .normal [(.i .i64 (IntKind.wrap .i64 (i + (1 : Int))))] [] []))
 (KK .ret [(.i .i64 i)] [] []))))))
 (KK .normal [(.i .i64 (IntKind.wrap .i64 (i + (1 : Int))))] [] []))
 (KK .normal [(.i .i64 (IntKind.wrap .i64 (i + (1 : Int))))] [] []))
 (KK .normal [(.i .i64 (IntKind.wrap .i64 (i + (1 : Int))))] [] []))
 (KK .normal [(.i .i64 (IntKind.wrap .i64 (i + (1 : Int))))] [] [])))))
 (KK (.exit 0) [(.i .i64 i)] [] [])) := by kernel_rfl
theorem out_go (need : Int) (now : Int) (age : Int) (l : Ll) (i : Int) (T : Al (SV (stdA fst false))) (M : Al (SO (stdA fst false))) (KK : Ex → List (SV (stdA fst false)) → List (SO (stdA fst false)) → List Ll → Prop) (p1 : (Ll.len l) ≤ (24 : Int)) (hI : 0 ≤ i ∧ i ≤ goodI l need now age) (hn : ∀ (i' : Int), 0 ≤ i' ∧ i' ≤ goodI l need now age → (24 - i').toNat < (24 - i).toNat → KK .normal [.i .i64 i'] [] []) (hx1 : (decide (goodI l need now age < l.length)) = true → KK .ret [.i .i64 (goodI l need now age)] [] []) (hx2 : (decide (goodI l need now age < l.length)) = false → KK (.exit 0) [.i .i64 (Ll.len l)] [] []) :
    sCode Try.prog (sCall Try.prog 30 (spOf sp0) lpI 20) (lpI 83) 30 (false :: [false, true, false, true]) (bodyAt Try.prog 83 [false, true, false, true]) (hdL (bodyAt Try.prog 83 [false, true, false, true]) T M 19 6 [(0, .ls false 0 (Ll.len l)), (7, .i .i64 (Ll.len l)), (1, .fn 42 [] [.p 2 0, .p 3 0, .p 4 0, .p 5 0])] [(0, .list 0 [.int .i64, .bool, .int .i64] false l), (1, .row 22 [.ls false 0 (Ll.len l)]), (2, .row 2 [.i .i64 need]), (3, .row 2 [.i .i64 now]), (4, .row 2 [.i .i64 age]), (5, .row 76 [.fn 39 [] [.p 1 0, .p 3 0]])] [(8, .i .i64 i)] [] [] [] []) (outL 6 (tsOf [8] [4]) [] [] KK) := by
  refine Eq.mpr (out_eq need now age i l T M KK) ?_
  have hl : Ll.len l = (l.length : Int) := rfl
  obtain ⟨i0, i1⟩ := hI
  by_cases h : i < Ll.len l
  · rw [decide_eq_true h]
    refine ⟨by omega, h, h, ?_⟩
    have hs := leastN_step (p := goodAt l need now age) (k := l.length) i0 i1 (by omega)
    have hg : goodAt l need now age i = (((Ll.getB l i 1 && decide (need ≤ Ll.get l i 0)) && (decide (Ll.get l i 2 ≤ now) && decide (IntKind.wrap .u64 (IntKind.wrap .u64 now - IntKind.wrap .u64 (Ll.get l i 2)) ≤ IntKind.wrap .u64 age))) && !(badB l (Ll.get l i 2) now)) := rfl
    have stop : goodAt l need now age i = true → KK .ret [.i .i64 i] [] [] := fun hb => by
      have e : goodI l need now age = i := hs.1 hb
      rw [e] at hx1
      exact hx1 (decide_eq_true (by omega))
    have next : goodAt l need now age i = false → KK .normal [.i .i64 (i + 1)] [] [] := fun hb => hn (i + 1) ⟨by omega, hs.2 hb⟩ (by omega)
    rw [show decide (badI l (Ll.get l i 2) now ≥ 0) = true from decide_eq_true (leastN_spec (badAt l (Ll.get l i 2) now) l.length 0).1]
    rw [wrap_id (show -9223372036854775808 ≤ i + 1 by omega) (by omega)]
    simp only [ge_iff_le]
    generalize Ll.getB l i 1 = B1 at *
    generalize decide (need ≤ Ll.get l i 0) = B2 at *
    generalize decide (Ll.get l i 2 ≤ now) = B3 at *
    generalize decide (IntKind.wrap .u64 (IntKind.wrap .u64 now - IntKind.wrap .u64 (Ll.get l i 2)) ≤ IntKind.wrap .u64 age) = B4 at *
    generalize badB l (Ll.get l i 2) now = B5 at *
    cases B1 <;> cases B2 <;> cases B3 <;> cases B4 <;> cases B5 <;> first | exact next hg | exact ⟨by trivial, by trivial, by trivial, p1, stop hg⟩ | exact ⟨by trivial, by trivial, by trivial, p1, next hg⟩
  · rw [decide_eq_false h]
    obtain ⟨_, a2, _, _⟩ := leastN_spec (goodAt l need now age) l.length 0
    have a3 : goodI l need now age ≤ l.length := by unfold goodI; omega
    obtain rfl : i = Ll.len l := by omega
    exact hx2 (decide_eq_false (by omega))
abbrev outF {A : Go.Rx.Alg} : Code → Go.Rx.SS A → (Go.Rx.Ex → Go.Rx.SS A → A.R) → A.R := fun c_ s_ K_ => match s_.T.get 0, s_.T.get 7, s_.T.get 1, s_.H.get 0, s_.H.get 1, s_.H.get 2, s_.H.get 3, s_.H.get 4, s_.H.get 5, s_.T.get 8 with
  | some (.ls false 0 m1), some (.i .i64 m2), some (.fn f3 [] [.p 2 0, .p 3 0, .p 4 0, .p 5 0]), some (.list t4 k4 false l), some (.row t5 [.ls false 0 m6]), some (.row t7 [.i .i64 need]), some (.row t8 [.i .i64 now]), some (.row t9 [.i .i64 age]), some (.row t10 [.fn 39 [] [.p 1 0, .p 3 0]]), some (.i .i64 i) => bif (((((((((Nat.beq s_.N 19 && Nat.beq s_.nx 6) && Nat.beq f3 42) && Nat.beq t4 0) && decide (k4 = [.int .i64, .bool, .int .i64])) && Nat.beq t5 22) && Nat.beq t7 2) && Nat.beq t8 2) && Nat.beq t9 2) && Nat.beq t10 76) then (A.need .eql m1 (A.len l) (A.need .eql m2 (A.len l) (A.need .eql m6 (A.len l) (A.need .eql i (A.lit 0) (A.need .leq (A.len l) (A.lit 24) ((A.br (A.appB 32 [l] [need, now, age]) (fun _ => K_ .ret (Go.Rx.hdL c_ s_.T (Go.Rx.kills [] s_.H) 19 6 [(0, .ls false 0 (A.len l)), (7, .i .i64 (A.len l)), (1, .fn 42 [] [.p 2 0, .p 3 0, .p 4 0, .p 5 0])] [(0, .list 0 [.int .i64, .bool, .int .i64] false l), (1, .row 22 [.ls false 0 (A.len l)]), (2, .row 2 [.i .i64 need]), (3, .row 2 [.i .i64 now]), (4, .row 2 [.i .i64 age]), (5, .row 76 [.fn 39 [] [.p 1 0, .p 3 0]])] [(4, .i .i64 (A.app 2 [l] [need, now, age]))] [] [] [] (Go.Rx.addW ([] ++ []) s_.wr))) (fun _ => K_ (.exit 0) (Go.Rx.hdL c_ s_.T (Go.Rx.kills [] s_.H) 19 6 [(0, .ls false 0 (A.len l)), (7, .i .i64 (A.len l)), (1, .fn 42 [] [.p 2 0, .p 3 0, .p 4 0, .p 5 0])] [(0, .list 0 [.int .i64, .bool, .int .i64] false l), (1, .row 22 [.ls false 0 (A.len l)]), (2, .row 2 [.i .i64 need]), (3, .row 2 [.i .i64 now]), (4, .row 2 [.i .i64 age]), (5, .row 76 [.fn 39 [] [.p 1 0, .p 3 0]])] [(8, .i .i64 (A.len l))] [] [] [] (Go.Rx.addW ([] ++ []) s_.wr)))))))))) else A.fail "frame of out"
  | _, _, _, _, _, _, _, _, _, _ => A.fail "out"
theorem outF_ok {d : Nat} (hd : 200 ≤ d) : LoopOK (fs := fst) (ov := false) Try.prog AW d 83 [false, true, false, true] outF := by
  intro m_ hm_ fn_ c0_ hfn_ hb_ c_ ro_ hc_ s_ K_ W_ ν_ S_ h_ hs_
  obtain rfl := body_of hfn_ hb_ hc_
  simp only [outF] at h_
  split at h_
  · rename_i m1_0 m2_0 f3 t4 k4 l_0 t5 m6_0 t7 need_0 t8 now_0 t9 age_0 t10 i_0 g0 g1 g2 g3 g4 g5 g6 g7 g8 g9
    obtain ⟨m1, rfl⟩ : ∃ q : Int, q = m1_0 := ⟨m1_0, rfl⟩
    obtain ⟨m2, rfl⟩ : ∃ q : Int, q = m2_0 := ⟨m2_0, rfl⟩
    obtain ⟨l, rfl⟩ : ∃ q : Ll, q = l_0 := ⟨l_0, rfl⟩
    obtain ⟨m6, rfl⟩ : ∃ q : Int, q = m6_0 := ⟨m6_0, rfl⟩
    obtain ⟨need, rfl⟩ : ∃ q : Int, q = need_0 := ⟨need_0, rfl⟩
    obtain ⟨now, rfl⟩ : ∃ q : Int, q = now_0 := ⟨now_0, rfl⟩
    obtain ⟨age, rfl⟩ : ∃ q : Int, q = age_0 := ⟨age_0, rfl⟩
    obtain ⟨i, rfl⟩ : ∃ q : Int, q = i_0 := ⟨i_0, rfl⟩
    obtain ⟨T_, FN_, M_, snx_, wr_⟩ := s_
    have hN : (((((((((Nat.beq FN_ 19 && Nat.beq snx_ 6) && Nat.beq f3 42) && Nat.beq t4 0) && decide (k4 = [.int .i64, .bool, .int .i64])) && Nat.beq t5 22) && Nat.beq t7 2) && Nat.beq t8 2) && Nat.beq t9 2) && Nat.beq t10 76) = true := by
      cases hq : ((((((((((Nat.beq FN_ 19 && Nat.beq snx_ 6) && Nat.beq f3 42) && Nat.beq t4 0) && decide (k4 = [.int .i64, .bool, .int .i64])) && Nat.beq t5 22) && Nat.beq t7 2) && Nat.beq t8 2) && Nat.beq t9 2) && Nat.beq t10 76) : Bool) with
      | true => rfl
      | false => (rw [hq] at h_; exact h_.elim)
    rw [hN, cond_true] at h_
    simp only [Bool.and_eq_true, beq_iff, decide_eq_true_eq] at hN
    obtain ⟨⟨⟨⟨⟨⟨⟨⟨⟨rfl, rfl⟩, rfl⟩, rfl⟩, rfl⟩, rfl⟩, rfl⟩, rfl⟩, rfl⟩, rfl⟩ := hN
    obtain ⟨q0, h_⟩ := h_
    obtain rfl : m1 = (Ll.len l) := q0
    obtain ⟨q0, h_⟩ := h_
    obtain rfl : m2 = (Ll.len l) := q0
    obtain ⟨q0, h_⟩ := h_
    obtain rfl : m6 = (Ll.len l) := q0
    obtain ⟨q1, h_⟩ := h_
    have q1 : i = (0 : Int) := q1
    obtain ⟨q2, h_⟩ := h_
    have q2 : (Ll.len l) ≤ (24 : Int) := q2
    replace h_ : cond (decide (goodI l need now age < l.length)) (K_ .ret (hdL (bodyAt Try.prog 83 [false, true, false, true]) T_ (kills [] M_) 19 6 [(0, .ls false 0 (Ll.len l)), (7, .i .i64 (Ll.len l)), (1, .fn 42 [] [.p 2 0, .p 3 0, .p 4 0, .p 5 0])] [(0, .list 0 [.int .i64, .bool, .int .i64] false l), (1, .row 22 [.ls false 0 (Ll.len l)]), (2, .row 2 [.i .i64 need]), (3, .row 2 [.i .i64 now]), (4, .row 2 [.i .i64 age]), (5, .row 76 [.fn 39 [] [.p 1 0, .p 3 0]])] [(4, .i .i64 (goodI l need now age))] [] [] [] (addW ([] ++ []) wr_))) (K_ (.exit 0) (hdL (bodyAt Try.prog 83 [false, true, false, true]) T_ (kills [] M_) 19 6 [(0, .ls false 0 (Ll.len l)), (7, .i .i64 (Ll.len l)), (1, .fn 42 [] [.p 2 0, .p 3 0, .p 4 0, .p 5 0])] [(0, .list 0 [.int .i64, .bool, .int .i64] false l), (1, .row 22 [.ls false 0 (Ll.len l)]), (2, .row 2 [.i .i64 need]), (3, .row 2 [.i .i64 now]), (4, .row 2 [.i .i64 age]), (5, .row 76 [.fn 39 [] [.p 1 0, .p 3 0]])] [(8, .i .i64 (Ll.len l))] [] [] [] (addW ([] ++ []) wr_))) := h_
    have hx1 : (decide (goodI l need now age < l.length)) = true → K_ .ret (hdL (bodyAt Try.prog 83 [false, true, false, true]) T_ (kills [] M_) 19 6 [(0, .ls false 0 (Ll.len l)), (7, .i .i64 (Ll.len l)), (1, .fn 42 [] [.p 2 0, .p 3 0, .p 4 0, .p 5 0])] [(0, .list 0 [.int .i64, .bool, .int .i64] false l), (1, .row 22 [.ls false 0 (Ll.len l)]), (2, .row 2 [.i .i64 need]), (3, .row 2 [.i .i64 now]), (4, .row 2 [.i .i64 age]), (5, .row 76 [.fn 39 [] [.p 1 0, .p 3 0]])] [(4, .i .i64 (goodI l need now age))] [] [] [] (addW ([] ++ []) wr_)) := fun e1 => by
      have h2 := h_
      rw [e1] at h2; simp only [cond_true, cond_false] at h2; exact h2
    have hx2 : (decide (goodI l need now age < l.length)) = false → K_ (.exit 0) (hdL (bodyAt Try.prog 83 [false, true, false, true]) T_ (kills [] M_) 19 6 [(0, .ls false 0 (Ll.len l)), (7, .i .i64 (Ll.len l)), (1, .fn 42 [] [.p 2 0, .p 3 0, .p 4 0, .p 5 0])] [(0, .list 0 [.int .i64, .bool, .int .i64] false l), (1, .row 22 [.ls false 0 (Ll.len l)]), (2, .row 2 [.i .i64 need]), (3, .row 2 [.i .i64 now]), (4, .row 2 [.i .i64 age]), (5, .row 76 [.fn 39 [] [.p 1 0, .p 3 0]])] [(8, .i .i64 (Ll.len l))] [] [] [] (addW ([] ++ []) wr_)) := fun e1 => by
      have h2 := h_
      rw [e1] at h2; simp only [cond_true, cond_false] at h2; exact h2
    refine loop_ruleL (fs := fst) (ov := false) (s := ⟨T_, 19, M_, 6, wr_⟩) (X := Int) (B := []) (mv := []) (kt := [(0, .ls false 0 (Ll.len l)), (7, .i .i64 (Ll.len l)), (1, .fn 42 [] [.p 2 0, .p 3 0, .p 4 0, .p 5 0])]) (kr := [(0, .list 0 [.int .i64, .bool, .int .i64] false l), (1, .row 22 [.ls false 0 (Ll.len l)]), (2, .row 2 [.i .i64 need]), (3, .row 2 [.i .i64 now]), (4, .row 2 [.i .i64 age]), (5, .row 76 [.fn 39 [] [.p 1 0, .p 3 0]])]) (ty := []) (x := (i))
      (Inv := (fun x : Int => match x with | (i) => 0 ≤ i ∧ i ≤ goodI l need now age)) (μ := (fun x : Int => match x with | (i) => (24 - i).toNat)) (ts := tsOf [8] [4]) (sl := (fun x : Int => match x with | (i) => [.i .i64 i])) (bl := (fun x : Int => match x with | (i) => [])) (ll := (fun x : Int => match x with | (i) => [])) (Q := fun e_ vs_ os_ hs_ => K_ e_ (hdL (bodyAt Try.prog 83 [false, true, false, true]) T_ (kills [] M_) 19 6 [(0, .ls false 0 (Ll.len l)), (7, .i .i64 (Ll.len l)), (1, .fn 42 [] [.p 2 0, .p 3 0, .p 4 0, .p 5 0])] [(0, .list 0 [.int .i64, .bool, .int .i64] false l), (1, .row 22 [.ls false 0 (Ll.len l)]), (2, .row 2 [.i .i64 need]), (3, .row 2 [.i .i64 now]), (4, .row 2 [.i .i64 age]), (5, .row 76 [.fn 39 [] [.p 1 0, .p 3 0]])] (((tsOf [8] [4]) e_).zip vs_) ([].zip os_) [] hs_ (addW ([] ++ []) wr_)))
      (L := LL) (U := 30) (cs := sCall Try.prog 30 (spOf sp0) lpI 20) (call := CN Try.prog AW m_) (lp := lpI 83) (root := c0_) (p := [false, true, false, true])
      (show CallSOK _ _ from by
        have := sCall_ok (P := Try.prog) (d := m_ - 20) (U := 30) (lp := lpI) (sp0_ok (fs := fst) (ov := false) (d := m_ - 20)) (sp0_aw (fs := fst) (ov := false)) (lpI_ok (by omega)) (by decide) 20
        rwa [show 20 + (m_ - 20) = m_ by omega] at this) (lpI_ok (d := m_) (by omega) m_ (Nat.le_refl m_) 83 fn_ c0_ hfn_ hb_) (by decide) hc_
      (fun x o ho => by cases ho)
      (fun x hx => by cases hx) (fun x hx => by cases hx) (fun x hx => by cases hx)
      (fun x hx => by
        simp only [List.mem_cons, List.not_mem_nil, or_false] at hx
        rcases hx with rfl | rfl | rfl
        · exact g0
        · exact g1
        · exact g2) (fun x hx => by
        simp only [List.mem_cons, List.not_mem_nil, or_false] at hx
        rcases hx with rfl | rfl | rfl | rfl | rfl | rfl
        · exact ⟨g3, by simp⟩
        · exact ⟨g4, by simp⟩
        · exact ⟨g5, by simp⟩
        · exact ⟨g6, by simp⟩
        · exact ⟨g7, by simp⟩
        · exact ⟨g8, by simp⟩) ?_ (fun _ _ _ _ _ h => h) ?_ ?_ ?_ hs_
    · rintro i hI
      exact out_go need now age l i T_ (kills [] M_) _ q2 hI (fun i' ha hb => ⟨(i'), ha, hb, rfl, rfl, rfl⟩) (fun e1 => ⟨by simp [SO.mine], hx1 e1⟩) (fun e1 => ⟨by simp [SO.mine], hx2 e1⟩)
    · show 0 ≤ i ∧ i ≤ goodI l need now age
      exact ⟨by omega, by rw [q1]; exact (leastN_spec (goodAt l need now age) l.length 0).1⟩
    · show (24 - i).toNat < LL
      exact Nat.lt_of_le_of_lt (show _ ≤ 1000 by omega) (by decide)
    · exact ⟨⟨[.i .i64 i], [], [], [], by simp [gets, tsOf, g0, g1, g2, g3, g4, g5, g6, g7, g8, g9], by simp [gets, g0, g1, g2, g3, g4, g5, g6, g7, g8, g9], rfl, rfl, by simp [listsOf] <;> rfl⟩⟩
  · exact h_.elim
abbrev idxF {A : Go.Rx.Alg} : Code → Go.Rx.SS A → (Go.Rx.Ex → Go.Rx.SS A → A.R) → A.R := fun c s K => match s.T.get 1 with
  | some (.fn f _ _) => bif Nat.beq f 41 then innF c s K else outF c s K
  | _ => A.fail "idx"
theorem idxF_ok {d : Nat} (hd : 200 ≤ d) : LoopOK (fs := fst) (ov := false) Try.prog AW d 83 [false, true, false, true] idxF := by
  intro m hm fn c0 h1 h2 c ro h3 s K W ν S h hs
  simp only [idxF] at h
  split at h
  · rename_i f a b e
    cases hb : Nat.beq f 41
    · rw [hb] at h; exact outF_ok hd m hm fn c0 h1 h2 c ro h3 s K W ν S h hs
    · rw [hb] at h; exact innF_ok (by omega) m hm fn c0 h1 h2 c ro h3 s K W ν S h hs
  · exact h.elim
abbrev lpP {A : Go.Rx.Alg} : Nat → Go.Rx.LoopS A := Go.Rx.lpOf [(83, [false, true, false, true], idxF)]
theorem lpP_ok {d : Nat} (hd : 200 ≤ d) : LoopsAll (fs := fst) (ov := false) Try.prog AW d lpP := lpOf_ok fun x hx => by
  simp only [List.mem_cons, List.not_mem_nil, or_false] at hx
  rcases hx with rfl
  · exact idxF_ok (by omega)
theorem prov_eq (need now age : Int) (l : Ll) (KK : KS (stdA fst false)) : sFunc Try.prog 30 (sCall Try.prog 30 (spOf sp0) lpP 20) lpP 12 [.ls false 0 (Ll.len l), .i .i64 need, .i .i64 now, .i .i64 age] (lsMem 0 [([.int .i64, .bool, .int .i64], l)]) 1 KK =
  (cond (decide ((Ll.len l) > (24 : Int)))
 (KK (.b false) (lsMem 0 [([.int .i64, .bool, .int .i64], l)]) 1 [])
 (cond (decide (age < (0 : Int)))
 (KK (.b false) (lsMem 0 [([.int .i64, .bool, .int .i64], l)]) 1 [])
 ((Ll.len l) = (Ll.len l) ∧ ((Ll.len l) = (Ll.len l) ∧ ((Ll.len l) = (Ll.len l) ∧ ((0 : Int) = (0 : Int) ∧ ((Ll.len l) ≤ (24 : Int) ∧ (cond (decide (goodI l need now age < l.length))
 (KK (.b (decide ((goodI l need now age) ≥ (0 : Int)))) (lsMem 0 [([.int .i64, .bool, .int .i64], l)]) 1 [])
 (KK (.b false) (lsMem 0 [([.int .i64, .bool, .int .i64], l)]) 1 []))))))))) := by kernel_rfl
theorem prov_pure {m : Nat} (hm : 300 ≤ m) {H : Hp} {nx : Nat} (need now age : Int) {v_l : LV} {l : Ll} (hl_l : IsL H nx [.int .i64, .bool, .int .i64] l v_l) : Pure Try.prog AW m 12 [v_l, .i .i64 need, .i .i64 now, .i .i64 age] H nx (.b (provB l need now age)) := by
  obtain ⟨ν, n1, n2, n3, n4⟩ := ls_in (fs := fst) (ov := false) (l := [([.int .i64, .bool, .int .i64], l)]) (lvs := [v_l]) 0 (fun i x lv e1 e2 => by
    cases i with
    | zero => simp at e1 e2; subst e1 e2; exact hl_l
    | succ i =>
      simp at e1) rfl
  refine pure_of (n := 20) (d := m - 21) (U := 30) (fs := fst) (ov := false) sp0_ok sp0_aw (lpP_ok (by omega)) (by decide) (by decide) (by omega) (args := [.ls false 0 (Ll.len l), .i .i64 need, .i .i64 now, .i .i64 age]) (M := lsMem 0 [([.int .i64, .bool, .int .i64], l)]) (snx := 1) ?_ (VSL.cons (n4 0 _ _ rfl rfl) (VSL.cons rfl (VSL.cons rfl (VSL.cons rfl rfl)))) (hs_in n2 n3)
  rw [prov_eq]
  have hl : Ll.len l = (l.length : Int) := rfl
  have g0 : 0 ≤ goodI l need now age := (leastN_spec (goodAt l need now age) l.length 0).1
  simp only [cond_iff]
  refine ⟨fun h => end_b (decide_eq_false (by omega)).symm, fun h => ⟨fun h2 => end_b (decide_eq_false (by omega)).symm, fun h2 => ⟨by trivial, by trivial, by trivial, by trivial, by omega, fun h3 => ?_, fun h3 => ?_⟩⟩⟩
  · rw [decide_eq_true (show goodI l need now age ≥ 0 from g0)]; exact end_b (decide_eq_true ⟨by omega, by omega, h3⟩).symm
  · exact end_b (decide_eq_false (by omega)).symm
abbrev provS {A : Go.Rx.Alg} : List (Go.Rx.SV A) → Go.Rx.SH A → Nat → Go.Rx.KS A → A.R := fun args_ M_ snx_ K_ => match args_ with
  | [x_l, .i .i64 need, .i .i64 now, .i .i64 age] => (match Go.Rx.lsArg M_ [.int .i64, .bool, .int .i64] x_l with | some (l, n_l) => (A.need .eql n_l (A.len l) (K_ (.b (A.appB 33 [l] [need, now, age])) M_ snx_ [])) | none => A.fail "prov")
  | _ => A.fail "prov"
theorem provS_ok {ov : Bool} {d : Nat} (hd : 300 ≤ d) : SpecOK (fs := fst) (ov := ov) Try.prog AW d 12 provS := by
  intro m_ hm_ args_ M_ snx_ K_ h_ ν_ largs_ H_ nx_ ha_ hM_
  unfold provS at h_
  split at h_
  · rename_i x_l need now age
    obtain ⟨v_l, r1, rfl, hx_l, ⟨y2, r2, rfl, rfl, ⟨y3, r3, rfl, rfl, ⟨y4, r4, rfl, rfl, rfl⟩⟩⟩⟩ := ha_
    split at h_
    · rename_i l n_l q_l
      obtain ⟨e_l, h_⟩ := h_
      exact pure_got (prov_pure (by omega) need now age (lsArg_ok hM_ hx_l q_l e_l)) hM_ (v := .b _) rfl h_
    · exact h_.elim
  · exact h_.elim
theorem rin_eq (now i k : Int) (b : Bool) (l : Ll) (T : Al (SV (stdA fst false))) (M : Al (SO (stdA fst false))) (KK : Ex → List (SV (stdA fst false)) → List (SO (stdA fst false)) → List Ll → Prop) : sCode Try.prog (sCall Try.prog 30 (spOf sp0) noLoop 20) (noLoop 13) 30 (false :: [false, true, false, true, true, false, false, true, false, false, true, false, true, true]) (bodyAt Try.prog 13 [false, true, false, true, true, false, false, true, false, false, true, false, true, true]) (hdL (bodyAt Try.prog 13 [false, true, false, true, true, false, false, true, false, false, true, false, true, true]) T M 102 1 [(0, .ls false 0 (Ll.len l)), (2, .i .i64 now), (9, .i .i64 i)] [(0, .list 0 [.int .i64, .bool, .int .i64] false l)] [(10, .b b), (11, .i .i64 k)] [] [] [] []) (outL 1 (tsOf [10, 11] []) [] [] KK) =
  (cond (decide (k < (Ll.len l)))
 (cond b
 (KK .normal [(.b true), (.i .i64 (IntKind.wrap .i64 (k + (1 : Int))))] [] [])
 ((0 : Int) ≤ k ∧ (k < (Ll.len l) ∧ (k < (Ll.len l) ∧ (cond (!(Ll.getB l k 1))
 ((0 : Int) ≤ k ∧ (k < (Ll.len l) ∧ (k < (Ll.len l) ∧ ((0 : Int) ≤ i ∧ (i < (Ll.len l) ∧ (i < (Ll.len l) ∧ (cond (decide ((Ll.get l k 2) ≥ (Ll.get l i 2)))
 ((0 : Int) ≤ k ∧ (k < (Ll.len l) ∧ (k < (Ll.len l) ∧ (KK .normal [(.b (decide ((Ll.get l k 2) ≤ now))), (.i .i64 (IntKind.wrap .i64 (k + (1 : Int))))] [] []))))
 (KK .normal [(.b false), (.i .i64 (IntKind.wrap .i64 (k + (1 : Int))))] [] []))))))))
 (KK .normal [(.b false), (.i .i64 (IntKind.wrap .i64 (k + (1 : Int))))] [] []))))))
 (KK (.exit 2) [(.b b), (.i .i64 k)] [] [])) := by kernel_rfl
theorem rin_go (now : Int) (i : Int) (l : Ll) (k : Int) (b : Bool) (T : Al (SV (stdA fst false))) (M : Al (SO (stdA fst false))) (KK : Ex → List (SV (stdA fst false)) → List (SO (stdA fst false)) → List Ll → Prop) (p1 : (Ll.len l) ≤ (24 : Int)) (p2 : (0 : Int) ≤ i) (p3 : i < (Ll.len l)) (hI : 0 ≤ k ∧ k ≤ Ll.len l ∧ b = badTo l (Ll.get l i 2) now k) (hn : ∀ (k' : Int) (b' : Bool), 0 ≤ k' ∧ k' ≤ Ll.len l ∧ b' = badTo l (Ll.get l i 2) now k' → (24 - k').toNat < (24 - k).toNat → KK .normal [.b b', .i .i64 k'] [] []) (hx1 : KK (.exit 2) [.b (badB l (Ll.get l i 2) now), .i .i64 (Ll.len l)] [] []) :
    sCode Try.prog (sCall Try.prog 30 (spOf sp0) noLoop 20) (noLoop 13) 30 (false :: [false, true, false, true, true, false, false, true, false, false, true, false, true, true]) (bodyAt Try.prog 13 [false, true, false, true, true, false, false, true, false, false, true, false, true, true]) (hdL (bodyAt Try.prog 13 [false, true, false, true, true, false, false, true, false, false, true, false, true, true]) T M 102 1 [(0, .ls false 0 (Ll.len l)), (2, .i .i64 now), (9, .i .i64 i)] [(0, .list 0 [.int .i64, .bool, .int .i64] false l)] [(10, .b b), (11, .i .i64 k)] [] [] [] []) (outL 1 (tsOf [10, 11] []) [] [] KK) := by
  refine Eq.mpr (rin_eq now i k b l T M KK) ?_
  have hl : Ll.len l = (l.length : Int) := rfl
  obtain ⟨i0, i1, rfl⟩ := hI
  by_cases h : k < Ll.len l
  · rw [decide_eq_true h]
    rw [wrap_id (show -9223372036854775808 ≤ k + 1 by omega) (by omega)]
    have hs := badTo_succ (since := Ll.get l i 2) (now := now) i0 (show k < l.length by omega)
    have hg : badAt l (Ll.get l i 2) now k = ((!(Ll.getB l k 1) && decide (Ll.get l i 2 ≤ Ll.get l k 2)) && decide (Ll.get l k 2 ≤ now)) := rfl
    have next : ∀ b', badTo l (Ll.get l i 2) now (k + 1) = b' → KK .normal [.b b', .i .i64 (k + 1)] [] [] := fun b' hb => hn (k + 1) b' ⟨by omega, by omega, hb.symm⟩ (by omega)
    simp only [ge_iff_le]
    rw [hg] at hs
    generalize Ll.getB l k 1 = B1 at *
    generalize decide (Ll.get l i 2 ≤ Ll.get l k 2) = B2 at *
    generalize decide (Ll.get l k 2 ≤ now) = B3 at *
    generalize badTo l (Ll.get l i 2) now k = B0 at *
    cases B0 <;> cases B1 <;> cases B2 <;> cases B3 <;> first | exact next _ hs | exact ⟨i0, h, h, next _ hs⟩ | exact ⟨i0, h, h, i0, h, h, by omega, by omega, by omega, next _ hs⟩ | exact ⟨i0, h, h, i0, h, h, by omega, by omega, by omega, i0, h, h, next _ hs⟩
  · rw [decide_eq_false h]
    obtain rfl : k = Ll.len l := by omega
    exact hx1
abbrev rinF {A : Go.Rx.Alg} : Code → Go.Rx.SS A → (Go.Rx.Ex → Go.Rx.SS A → A.R) → A.R := fun c_ s_ K_ => match s_.T.get 0, s_.T.get 2, s_.T.get 9, s_.H.get 0, s_.T.get 10, s_.T.get 11 with
  | some (.ls false 0 m1), some (.i .i64 now), some (.i .i64 i), some (.list t2 k2 false l), some (.b b), some (.i .i64 k) => bif (((Nat.beq s_.N 102 && Nat.beq s_.nx 1) && Nat.beq t2 0) && decide (k2 = [.int .i64, .bool, .int .i64])) then (A.need .eql m1 (A.len l) (A.need .eql k (A.lit 0) (A.br b (fun _ => A.fail "pre") (fun _ => (A.need .leq (A.len l) (A.lit 24) (A.need .leq (A.lit 0) i (A.need .lss i (A.len l) (K_ (.exit 2) (Go.Rx.hdL c_ s_.T (Go.Rx.kills [] s_.H) 102 1 [(0, .ls false 0 (A.len l)), (2, .i .i64 now), (9, .i .i64 i)] [(0, .list 0 [.int .i64, .bool, .int .i64] false l)] [(10, .b (A.appB 35 [l] [i, now])), (11, .i .i64 (A.len l))] [] [] [] (Go.Rx.addW ([] ++ []) s_.wr)))))))))) else A.fail "frame of rin"
  | _, _, _, _, _, _ => A.fail "rin"
theorem rinF_ok {d : Nat} (hd : 100 ≤ d) : LoopOK (fs := fst) (ov := false) Try.prog AW d 13 [false, true, false, true, true, false, false, true, false, false, true, false, true, true] rinF := by
  intro m_ hm_ fn_ c0_ hfn_ hb_ c_ ro_ hc_ s_ K_ W_ ν_ S_ h_ hs_
  obtain rfl := body_of hfn_ hb_ hc_
  simp only [rinF] at h_
  split at h_
  · rename_i m1_0 now_0 i_0 t2 k2 l_0 b_0 k_0 g0 g1 g2 g3 g4 g5
    obtain ⟨m1, rfl⟩ : ∃ q : Int, q = m1_0 := ⟨m1_0, rfl⟩
    obtain ⟨now, rfl⟩ : ∃ q : Int, q = now_0 := ⟨now_0, rfl⟩
    obtain ⟨i, rfl⟩ : ∃ q : Int, q = i_0 := ⟨i_0, rfl⟩
    obtain ⟨l, rfl⟩ : ∃ q : Ll, q = l_0 := ⟨l_0, rfl⟩
    obtain ⟨b, rfl⟩ : ∃ q : Bool, q = b_0 := ⟨b_0, rfl⟩
    obtain ⟨k, rfl⟩ : ∃ q : Int, q = k_0 := ⟨k_0, rfl⟩
    obtain ⟨T_, FN_, M_, snx_, wr_⟩ := s_
    have hN : (((Nat.beq FN_ 102 && Nat.beq snx_ 1) && Nat.beq t2 0) && decide (k2 = [.int .i64, .bool, .int .i64])) = true := by
      cases hq : ((((Nat.beq FN_ 102 && Nat.beq snx_ 1) && Nat.beq t2 0) && decide (k2 = [.int .i64, .bool, .int .i64])) : Bool) with
      | true => rfl
      | false => (rw [hq] at h_; exact h_.elim)
    rw [hN, cond_true] at h_
    simp only [Bool.and_eq_true, beq_iff, decide_eq_true_eq] at hN
    obtain ⟨⟨⟨rfl, rfl⟩, rfl⟩, rfl⟩ := hN
    obtain ⟨q0, h_⟩ := h_
    obtain rfl : m1 = (Ll.len l) := q0
    obtain ⟨q1, h_⟩ := h_
    have q1 : k = (0 : Int) := q1
    obtain ⟨q2, h_⟩ := br_not (fs := fst) (ov := false) h_
    have q2 : b = false := q2
    obtain ⟨q3, h_⟩ := h_
    have q3 : (Ll.len l) ≤ (24 : Int) := q3
    obtain ⟨q4, h_⟩ := h_
    have q4 : (0 : Int) ≤ i := q4
    obtain ⟨q5, h_⟩ := h_
    have q5 : i < (Ll.len l) := q5
    replace h_ : K_ (.exit 2) (hdL (bodyAt Try.prog 13 [false, true, false, true, true, false, false, true, false, false, true, false, true, true]) T_ (kills [] M_) 102 1 [(0, .ls false 0 (Ll.len l)), (2, .i .i64 now), (9, .i .i64 i)] [(0, .list 0 [.int .i64, .bool, .int .i64] false l)] [(10, .b (badB l (Ll.get l i 2) now)), (11, .i .i64 (Ll.len l))] [] [] [] (addW ([] ++ []) wr_)) := h_
    have hx1 : K_ (.exit 2) (hdL (bodyAt Try.prog 13 [false, true, false, true, true, false, false, true, false, false, true, false, true, true]) T_ (kills [] M_) 102 1 [(0, .ls false 0 (Ll.len l)), (2, .i .i64 now), (9, .i .i64 i)] [(0, .list 0 [.int .i64, .bool, .int .i64] false l)] [(10, .b (badB l (Ll.get l i 2) now)), (11, .i .i64 (Ll.len l))] [] [] [] (addW ([] ++ []) wr_)) := by
      have h2 := h_
      exact h2
    refine loop_ruleL (fs := fst) (ov := false) (s := ⟨T_, 102, M_, 1, wr_⟩) (X := Int × Bool) (B := []) (mv := []) (kt := [(0, .ls false 0 (Ll.len l)), (2, .i .i64 now), (9, .i .i64 i)]) (kr := [(0, .list 0 [.int .i64, .bool, .int .i64] false l)]) (ty := []) (x := (k, b))
      (Inv := (fun x : Int × Bool => match x with | (k, b) => 0 ≤ k ∧ k ≤ Ll.len l ∧ b = badTo l (Ll.get l i 2) now k)) (μ := (fun x : Int × Bool => match x with | (k, b) => (24 - k).toNat)) (ts := tsOf [10, 11] []) (sl := (fun x : Int × Bool => match x with | (k, b) => [.b b, .i .i64 k])) (bl := (fun x : Int × Bool => match x with | (k, b) => [])) (ll := (fun x : Int × Bool => match x with | (k, b) => [])) (Q := fun e_ vs_ os_ hs_ => K_ e_ (hdL (bodyAt Try.prog 13 [false, true, false, true, true, false, false, true, false, false, true, false, true, true]) T_ (kills [] M_) 102 1 [(0, .ls false 0 (Ll.len l)), (2, .i .i64 now), (9, .i .i64 i)] [(0, .list 0 [.int .i64, .bool, .int .i64] false l)] (((tsOf [10, 11] []) e_).zip vs_) ([].zip os_) [] hs_ (addW ([] ++ []) wr_)))
      (L := LL) (U := 30) (cs := sCall Try.prog 30 (spOf sp0) noLoop 20) (call := CN Try.prog AW m_) (lp := noLoop 13) (root := c0_) (p := [false, true, false, true, true, false, false, true, false, false, true, false, true, true])
      (show CallSOK _ _ from by
        have := sCall_ok (P := Try.prog) (d := m_ - 20) (U := 30) (lp := noLoop) (sp0_ok (fs := fst) (ov := false) (d := m_ - 20)) (sp0_aw (fs := fst) (ov := false)) (noLoop_ok) (by decide) 20
        rwa [show 20 + (m_ - 20) = m_ by omega] at this) (fun p f h => by cases h) (by decide) hc_
      (fun x o ho => by cases ho)
      (fun x hx => by cases hx) (fun x hx => by cases hx) (fun x hx => by cases hx)
      (fun x hx => by
        simp only [List.mem_cons, List.not_mem_nil, or_false] at hx
        rcases hx with rfl | rfl | rfl
        · exact g0
        · exact g1
        · exact g2) (fun x hx => by
        simp only [List.mem_cons, List.not_mem_nil, or_false] at hx
        rcases hx with rfl
        · exact ⟨g3, by simp⟩) ?_ (fun _ _ _ _ _ h => h) ?_ ?_ ?_ hs_
    · rintro ⟨k, b⟩ hI
      exact rin_go now i l k b T_ (kills [] M_) _ q3 q4 q5 hI (fun k' b' ha hb => ⟨(k', b'), ha, hb, rfl, rfl, rfl⟩) (⟨by simp [SO.mine], hx1⟩)
    · show 0 ≤ k ∧ k ≤ Ll.len l ∧ b = badTo l (Ll.get l i 2) now k
      exact ⟨by omega, by omega, by rw [q1, q2]; exact badTo_0.symm⟩
    · show (24 - k).toNat < LL
      exact Nat.lt_of_le_of_lt (show _ ≤ 1000 by omega) (by decide)
    · exact ⟨⟨[.b b, .i .i64 k], [], [], [], by simp [gets, tsOf, g0, g1, g2, g3, g4, g5], by simp [gets, g0, g1, g2, g3, g4, g5], rfl, rfl, by simp [listsOf] <;> rfl⟩⟩
  · exact h_.elim
abbrev lpRi {A : Go.Rx.Alg} : Nat → Go.Rx.LoopS A := Go.Rx.lpOf [(13, [false, true, false, true, true, false, false, true, false, false, true, false, true, true], rinF)]
theorem lpRi_ok {d : Nat} (hd : 100 ≤ d) : LoopsAll (fs := fst) (ov := false) Try.prog AW d lpRi := lpOf_ok fun x hx => by
  simp only [List.mem_cons, List.not_mem_nil, or_false] at hx
  rcases hx with rfl
  · exact rinF_ok (by omega)
theorem rout_eq (need now age i : Int) (l : Ll) (T : Al (SV (stdA fst false))) (M : Al (SO (stdA fst false))) (KK : Ex → List (SV (stdA fst false)) → List (SO (stdA fst false)) → List Ll → Prop) : sCode Try.prog (sCall Try.prog 30 (spOf sp0) lpRi 20) (lpRi 13) 30 (false :: [false, true, false, true, true]) (bodyAt Try.prog 13 [false, true, false, true, true]) (hdL (bodyAt Try.prog 13 [false, true, false, true, true]) T M 102 1 [(0, .ls false 0 (Ll.len l)), (1, .i .i64 need), (2, .i .i64 now), (3, .i .i64 age)] [(0, .list 0 [.int .i64, .bool, .int .i64] false l)] [(9, .i .i64 i)] [] [] [] []) (outL 1 (tsOf [9] [8]) [] [] KK) =
  (cond (decide (i < (Ll.len l)))
 ((0 : Int) ≤ i ∧ (i < (Ll.len l) ∧ (i < (Ll.len l) ∧ (cond (!(Ll.getB l i 1))
 (KK .normal [(.i .i64 (IntKind.wrap .i64 (i + (1 : Int))))] [] [])
 ((0 : Int) ≤ i ∧ (i < (Ll.len l) ∧ (i < (Ll.len l) ∧ (cond (decide ((Ll.get l i 0) < need))
 (KK .normal [(.i .i64 (IntKind.wrap .i64 (i + (1 : Int))))] [] [])
 ((0 : Int) ≤ i ∧ (i < (Ll.len l) ∧ (i < (Ll.len l) ∧ (cond (decide ((Ll.get l i 2) > now))
 (KK .normal [(.i .i64 (IntKind.wrap .i64 (i + (1 : Int))))] [] [])
 ((0 : Int) ≤ i ∧ (i < (Ll.len l) ∧ (i < (Ll.len l) ∧ (cond (decide ((IntKind.wrap .u64 ((IntKind.wrap .u64 now) - (IntKind.wrap .u64 (Ll.get l i 2)))) > (IntKind.wrap .u64 age)))
 (KK .normal [(.i .i64 (IntKind.wrap .i64 (i + (1 : Int))))] [] [])
 ((Ll.len l) = (Ll.len l) ∧ ((0 : Int) = (0 : Int) ∧ ((Ll.len l) ≤ (24 : Int) ∧ ((0 : Int) ≤ i ∧ (i < (Ll.len l) ∧ (cond (!(badB l (Ll.get l i 2) now))
 (KK .ret [(.b true)] [] [])
 (KK .normal [(.i .i64 (IntKind.wrap .i64 (i + (1 : Int))))] [] [])))))))))))))))))))))))
 (KK (.exit 0) [(.i .i64 i)] [] [])) := by kernel_rfl
theorem rout_go (need : Int) (now : Int) (age : Int) (l : Ll) (i : Int) (T : Al (SV (stdA fst false))) (M : Al (SO (stdA fst false))) (KK : Ex → List (SV (stdA fst false)) → List (SO (stdA fst false)) → List Ll → Prop) (p1 : (Ll.len l) ≤ (24 : Int)) (hI : 0 ≤ i ∧ i ≤ goodI l need now age) (hn : ∀ (i' : Int), 0 ≤ i' ∧ i' ≤ goodI l need now age → (24 - i').toNat < (24 - i).toNat → KK .normal [.i .i64 i'] [] []) (hx1 : (decide (goodI l need now age < l.length)) = true → KK .ret [.b true] [] []) (hx2 : (decide (goodI l need now age < l.length)) = false → KK (.exit 0) [.i .i64 (Ll.len l)] [] []) :
    sCode Try.prog (sCall Try.prog 30 (spOf sp0) lpRi 20) (lpRi 13) 30 (false :: [false, true, false, true, true]) (bodyAt Try.prog 13 [false, true, false, true, true]) (hdL (bodyAt Try.prog 13 [false, true, false, true, true]) T M 102 1 [(0, .ls false 0 (Ll.len l)), (1, .i .i64 need), (2, .i .i64 now), (3, .i .i64 age)] [(0, .list 0 [.int .i64, .bool, .int .i64] false l)] [(9, .i .i64 i)] [] [] [] []) (outL 1 (tsOf [9] [8]) [] [] KK) := by
  refine Eq.mpr (rout_eq need now age i l T M KK) ?_
  have hl : Ll.len l = (l.length : Int) := rfl
  obtain ⟨i0, i1⟩ := hI
  by_cases h : i < Ll.len l
  · rw [decide_eq_true h]
    have hs := leastN_step (p := goodAt l need now age) (k := l.length) i0 i1 (by omega)
    have hg : goodAt l need now age i = (((Ll.getB l i 1 && decide (need ≤ Ll.get l i 0)) && (decide (Ll.get l i 2 ≤ now) && decide (IntKind.wrap .u64 (IntKind.wrap .u64 now - IntKind.wrap .u64 (Ll.get l i 2)) ≤ IntKind.wrap .u64 age))) && !(badB l (Ll.get l i 2) now)) := rfl
    have stop : goodAt l need now age i = true → KK .ret [.b true] [] [] := fun hb => by
      have e : goodI l need now age = i := hs.1 hb
      exact hx1 (decide_eq_true (by omega))
    have next : goodAt l need now age i = false → KK .normal [.i .i64 (i + 1)] [] [] := fun hb => hn (i + 1) ⟨by omega, hs.2 hb⟩ (by omega)
    rw [wrap_id (show -9223372036854775808 ≤ i + 1 by omega) (by omega)]
    rw [show decide (Ll.get l i 0 < need) = !decide (need ≤ Ll.get l i 0) from dec_not, show decide (Ll.get l i 2 > now) = !decide (Ll.get l i 2 ≤ now) from dec_not, show decide (IntKind.wrap .u64 (IntKind.wrap .u64 now - IntKind.wrap .u64 (Ll.get l i 2)) > IntKind.wrap .u64 age) = !decide (IntKind.wrap .u64 (IntKind.wrap .u64 now - IntKind.wrap .u64 (Ll.get l i 2)) ≤ IntKind.wrap .u64 age) from dec_not]
    generalize Ll.getB l i 1 = B1 at *
    generalize decide (need ≤ Ll.get l i 0) = B2 at *
    generalize decide (Ll.get l i 2 ≤ now) = B3 at *
    generalize decide (IntKind.wrap .u64 (IntKind.wrap .u64 now - IntKind.wrap .u64 (Ll.get l i 2)) ≤ IntKind.wrap .u64 age) = B4 at *
    generalize badB l (Ll.get l i 2) now = B5 at *
    refine ⟨i0, h, h, ?_⟩
    cases B1
    · exact next hg
    · refine ⟨i0, h, h, ?_⟩
      cases B2
      · exact next hg
      · refine ⟨i0, h, h, ?_⟩
        cases B3
        · exact next hg
        · refine ⟨i0, h, h, ?_⟩
          cases B4
          · exact next hg
          · refine ⟨by trivial, by trivial, p1, i0, h, ?_⟩
            cases B5
            · exact stop hg
            · exact next hg
  · rw [decide_eq_false h]
    obtain ⟨_, a2, _, _⟩ := leastN_spec (goodAt l need now age) l.length 0
    have a3 : goodI l need now age ≤ l.length := by unfold goodI; omega
    obtain rfl : i = Ll.len l := by omega
    exact hx2 (decide_eq_false (by omega))
abbrev routF {A : Go.Rx.Alg} : Code → Go.Rx.SS A → (Go.Rx.Ex → Go.Rx.SS A → A.R) → A.R := fun c_ s_ K_ => match s_.T.get 0, s_.T.get 1, s_.T.get 2, s_.T.get 3, s_.H.get 0, s_.T.get 9 with
  | some (.ls false 0 m1), some (.i .i64 need), some (.i .i64 now), some (.i .i64 age), some (.list t2 k2 false l), some (.i .i64 i) => bif (((Nat.beq s_.N 102 && Nat.beq s_.nx 1) && Nat.beq t2 0) && decide (k2 = [.int .i64, .bool, .int .i64])) then (A.need .eql m1 (A.len l) (A.need .eql i (A.lit 0) (A.need .leq (A.len l) (A.lit 24) ((A.br (A.appB 32 [l] [need, now, age]) (fun _ => K_ .ret (Go.Rx.hdL c_ s_.T (Go.Rx.kills [] s_.H) 102 1 [(0, .ls false 0 (A.len l)), (1, .i .i64 need), (2, .i .i64 now), (3, .i .i64 age)] [(0, .list 0 [.int .i64, .bool, .int .i64] false l)] [(8, .b (A.ofB true))] [] [] [] (Go.Rx.addW ([] ++ []) s_.wr))) (fun _ => K_ (.exit 0) (Go.Rx.hdL c_ s_.T (Go.Rx.kills [] s_.H) 102 1 [(0, .ls false 0 (A.len l)), (1, .i .i64 need), (2, .i .i64 now), (3, .i .i64 age)] [(0, .list 0 [.int .i64, .bool, .int .i64] false l)] [(9, .i .i64 (A.len l))] [] [] [] (Go.Rx.addW ([] ++ []) s_.wr)))))))) else A.fail "frame of rout"
  | _, _, _, _, _, _ => A.fail "rout"
theorem routF_ok {d : Nat} (hd : 200 ≤ d) : LoopOK (fs := fst) (ov := false) Try.prog AW d 13 [false, true, false, true, true] routF := by
  intro m_ hm_ fn_ c0_ hfn_ hb_ c_ ro_ hc_ s_ K_ W_ ν_ S_ h_ hs_
  obtain rfl := body_of hfn_ hb_ hc_
  simp only [routF] at h_
  split at h_
  · rename_i m1_0 need_0 now_0 age_0 t2 k2 l_0 i_0 g0 g1 g2 g3 g4 g5
    obtain ⟨m1, rfl⟩ : ∃ q : Int, q = m1_0 := ⟨m1_0, rfl⟩
    obtain ⟨need, rfl⟩ : ∃ q : Int, q = need_0 := ⟨need_0, rfl⟩
    obtain ⟨now, rfl⟩ : ∃ q : Int, q = now_0 := ⟨now_0, rfl⟩
    obtain ⟨age, rfl⟩ : ∃ q : Int, q = age_0 := ⟨age_0, rfl⟩
    obtain ⟨l, rfl⟩ : ∃ q : Ll, q = l_0 := ⟨l_0, rfl⟩
    obtain ⟨i, rfl⟩ : ∃ q : Int, q = i_0 := ⟨i_0, rfl⟩
    obtain ⟨T_, FN_, M_, snx_, wr_⟩ := s_
    have hN : (((Nat.beq FN_ 102 && Nat.beq snx_ 1) && Nat.beq t2 0) && decide (k2 = [.int .i64, .bool, .int .i64])) = true := by
      cases hq : ((((Nat.beq FN_ 102 && Nat.beq snx_ 1) && Nat.beq t2 0) && decide (k2 = [.int .i64, .bool, .int .i64])) : Bool) with
      | true => rfl
      | false => (rw [hq] at h_; exact h_.elim)
    rw [hN, cond_true] at h_
    simp only [Bool.and_eq_true, beq_iff, decide_eq_true_eq] at hN
    obtain ⟨⟨⟨rfl, rfl⟩, rfl⟩, rfl⟩ := hN
    obtain ⟨q0, h_⟩ := h_
    obtain rfl : m1 = (Ll.len l) := q0
    obtain ⟨q1, h_⟩ := h_
    have q1 : i = (0 : Int) := q1
    obtain ⟨q2, h_⟩ := h_
    have q2 : (Ll.len l) ≤ (24 : Int) := q2
    replace h_ : cond (decide (goodI l need now age < l.length)) (K_ .ret (hdL (bodyAt Try.prog 13 [false, true, false, true, true]) T_ (kills [] M_) 102 1 [(0, .ls false 0 (Ll.len l)), (1, .i .i64 need), (2, .i .i64 now), (3, .i .i64 age)] [(0, .list 0 [.int .i64, .bool, .int .i64] false l)] [(8, .b true)] [] [] [] (addW ([] ++ []) wr_))) (K_ (.exit 0) (hdL (bodyAt Try.prog 13 [false, true, false, true, true]) T_ (kills [] M_) 102 1 [(0, .ls false 0 (Ll.len l)), (1, .i .i64 need), (2, .i .i64 now), (3, .i .i64 age)] [(0, .list 0 [.int .i64, .bool, .int .i64] false l)] [(9, .i .i64 (Ll.len l))] [] [] [] (addW ([] ++ []) wr_))) := h_
    have hx1 : (decide (goodI l need now age < l.length)) = true → K_ .ret (hdL (bodyAt Try.prog 13 [false, true, false, true, true]) T_ (kills [] M_) 102 1 [(0, .ls false 0 (Ll.len l)), (1, .i .i64 need), (2, .i .i64 now), (3, .i .i64 age)] [(0, .list 0 [.int .i64, .bool, .int .i64] false l)] [(8, .b true)] [] [] [] (addW ([] ++ []) wr_)) := fun e1 => by
      have h2 := h_
      rw [e1] at h2; simp only [cond_true, cond_false] at h2; exact h2
    have hx2 : (decide (goodI l need now age < l.length)) = false → K_ (.exit 0) (hdL (bodyAt Try.prog 13 [false, true, false, true, true]) T_ (kills [] M_) 102 1 [(0, .ls false 0 (Ll.len l)), (1, .i .i64 need), (2, .i .i64 now), (3, .i .i64 age)] [(0, .list 0 [.int .i64, .bool, .int .i64] false l)] [(9, .i .i64 (Ll.len l))] [] [] [] (addW ([] ++ []) wr_)) := fun e1 => by
      have h2 := h_
      rw [e1] at h2; simp only [cond_true, cond_false] at h2; exact h2
    refine loop_ruleL (fs := fst) (ov := false) (s := ⟨T_, 102, M_, 1, wr_⟩) (X := Int) (B := []) (mv := []) (kt := [(0, .ls false 0 (Ll.len l)), (1, .i .i64 need), (2, .i .i64 now), (3, .i .i64 age)]) (kr := [(0, .list 0 [.int .i64, .bool, .int .i64] false l)]) (ty := []) (x := (i))
      (Inv := (fun x : Int => match x with | (i) => 0 ≤ i ∧ i ≤ goodI l need now age)) (μ := (fun x : Int => match x with | (i) => (24 - i).toNat)) (ts := tsOf [9] [8]) (sl := (fun x : Int => match x with | (i) => [.i .i64 i])) (bl := (fun x : Int => match x with | (i) => [])) (ll := (fun x : Int => match x with | (i) => [])) (Q := fun e_ vs_ os_ hs_ => K_ e_ (hdL (bodyAt Try.prog 13 [false, true, false, true, true]) T_ (kills [] M_) 102 1 [(0, .ls false 0 (Ll.len l)), (1, .i .i64 need), (2, .i .i64 now), (3, .i .i64 age)] [(0, .list 0 [.int .i64, .bool, .int .i64] false l)] (((tsOf [9] [8]) e_).zip vs_) ([].zip os_) [] hs_ (addW ([] ++ []) wr_)))
      (L := LL) (U := 30) (cs := sCall Try.prog 30 (spOf sp0) lpRi 20) (call := CN Try.prog AW m_) (lp := lpRi 13) (root := c0_) (p := [false, true, false, true, true])
      (show CallSOK _ _ from by
        have := sCall_ok (P := Try.prog) (d := m_ - 20) (U := 30) (lp := lpRi) (sp0_ok (fs := fst) (ov := false) (d := m_ - 20)) (sp0_aw (fs := fst) (ov := false)) (lpRi_ok (by omega)) (by decide) 20
        rwa [show 20 + (m_ - 20) = m_ by omega] at this) (lpRi_ok (d := m_) (by omega) m_ (Nat.le_refl m_) 13 fn_ c0_ hfn_ hb_) (by decide) hc_
      (fun x o ho => by cases ho)
      (fun x hx => by cases hx) (fun x hx => by cases hx) (fun x hx => by cases hx)
      (fun x hx => by
        simp only [List.mem_cons, List.not_mem_nil, or_false] at hx
        rcases hx with rfl | rfl | rfl | rfl
        · exact g0
        · exact g1
        · exact g2
        · exact g3) (fun x hx => by
        simp only [List.mem_cons, List.not_mem_nil, or_false] at hx
        rcases hx with rfl
        · exact ⟨g4, by simp⟩) ?_ (fun _ _ _ _ _ h => h) ?_ ?_ ?_ hs_
    · rintro i hI
      exact rout_go need now age l i T_ (kills [] M_) _ q2 hI (fun i' ha hb => ⟨(i'), ha, hb, rfl, rfl, rfl⟩) (fun e1 => ⟨by simp [SO.mine], hx1 e1⟩) (fun e1 => ⟨by simp [SO.mine], hx2 e1⟩)
    · show 0 ≤ i ∧ i ≤ goodI l need now age
      exact ⟨by omega, by rw [q1]; exact (leastN_spec (goodAt l need now age) l.length 0).1⟩
    · show (24 - i).toNat < LL
      exact Nat.lt_of_le_of_lt (show _ ≤ 1000 by omega) (by decide)
    · exact ⟨⟨[.i .i64 i], [], [], [], by simp [gets, tsOf, g0, g1, g2, g3, g4, g5], by simp [gets, g0, g1, g2, g3, g4, g5], rfl, rfl, by simp [listsOf] <;> rfl⟩⟩
  · exact h_.elim
abbrev lpR {A : Go.Rx.Alg} : Nat → Go.Rx.LoopS A := Go.Rx.lpOf [(13, [false, true, false, true, true], routF)]
theorem lpR_ok {d : Nat} (hd : 200 ≤ d) : LoopsAll (fs := fst) (ov := false) Try.prog AW d lpR := lpOf_ok fun x hx => by
  simp only [List.mem_cons, List.not_mem_nil, or_false] at hx
  rcases hx with rfl
  · exact routF_ok (by omega)
theorem rprov_eq (need now age : Int) (l : Ll) (KK : KS (stdA fst false)) : sFunc Try.prog 30 (sCall Try.prog 30 (spOf sp0) lpR 20) lpR 13 [.ls false 0 (Ll.len l), .i .i64 need, .i .i64 now, .i .i64 age] (lsMem 0 [([.int .i64, .bool, .int .i64], l)]) 1 KK =
  (cond (decide ((Ll.len l) > (24 : Int)))
 (KK (.b false) (lsMem 0 [([.int .i64, .bool, .int .i64], l)]) 1 [])
 (cond (decide (age < (0 : Int)))
 (KK (.b false) (lsMem 0 [([.int .i64, .bool, .int .i64], l)]) 1 [])
 ((Ll.len l) = (Ll.len l) ∧ ((0 : Int) = (0 : Int) ∧ ((Ll.len l) ≤ (24 : Int) ∧ (cond (decide (goodI l need now age < l.length))
 (KK (.b true) (lsMem 0 [([.int .i64, .bool, .int .i64], l)]) 1 [])
 (KK (.b false) (lsMem 0 [([.int .i64, .bool, .int .i64], l)]) 1 []))))))) := by kernel_rfl
theorem rprov_pure {m : Nat} (hm : 300 ≤ m) {H : Hp} {nx : Nat} (need now age : Int) {v_l : LV} {l : Ll} (hl_l : IsL H nx [.int .i64, .bool, .int .i64] l v_l) : Pure Try.prog AW m 13 [v_l, .i .i64 need, .i .i64 now, .i .i64 age] H nx (.b (provB l need now age)) := by
  obtain ⟨ν, n1, n2, n3, n4⟩ := ls_in (fs := fst) (ov := false) (l := [([.int .i64, .bool, .int .i64], l)]) (lvs := [v_l]) 0 (fun i x lv e1 e2 => by
    cases i with
    | zero => simp at e1 e2; subst e1 e2; exact hl_l
    | succ i =>
      simp at e1) rfl
  refine pure_of (n := 20) (d := m - 21) (U := 30) (fs := fst) (ov := false) sp0_ok sp0_aw (lpR_ok (by omega)) (by decide) (by decide) (by omega) (args := [.ls false 0 (Ll.len l), .i .i64 need, .i .i64 now, .i .i64 age]) (M := lsMem 0 [([.int .i64, .bool, .int .i64], l)]) (snx := 1) ?_ (VSL.cons (n4 0 _ _ rfl rfl) (VSL.cons rfl (VSL.cons rfl (VSL.cons rfl rfl)))) (hs_in n2 n3)
  rw [rprov_eq]
  have hl : Ll.len l = (l.length : Int) := rfl
  have g0 : 0 ≤ goodI l need now age := (leastN_spec (goodAt l need now age) l.length 0).1
  simp only [cond_iff]
  refine ⟨fun h => end_b (decide_eq_false (by omega)).symm, fun h => ⟨fun h2 => end_b (decide_eq_false (by omega)).symm, fun h2 => ⟨by trivial, by trivial, by omega, fun h3 => ?_, fun h3 => ?_⟩⟩⟩
  · exact end_b (decide_eq_true ⟨by omega, by omega, h3⟩).symm
  · exact end_b (decide_eq_false (by omega)).symm
abbrev rprovS {A : Go.Rx.Alg} : List (Go.Rx.SV A) → Go.Rx.SH A → Nat → Go.Rx.KS A → A.R := fun args_ M_ snx_ K_ => match args_ with
  | [x_l, .i .i64 need, .i .i64 now, .i .i64 age] => (match Go.Rx.lsArg M_ [.int .i64, .bool, .int .i64] x_l with | some (l, n_l) => (A.need .eql n_l (A.len l) (K_ (.b (A.appB 33 [l] [need, now, age])) M_ snx_ [])) | none => A.fail "rprov")
  | _ => A.fail "rprov"
theorem rprovS_ok {ov : Bool} {d : Nat} (hd : 300 ≤ d) : SpecOK (fs := fst) (ov := ov) Try.prog AW d 13 rprovS := by
  intro m_ hm_ args_ M_ snx_ K_ h_ ν_ largs_ H_ nx_ ha_ hM_
  unfold rprovS at h_
  split at h_
  · rename_i x_l need now age
    obtain ⟨v_l, r1, rfl, hx_l, ⟨y2, r2, rfl, rfl, ⟨y3, r3, rfl, rfl, ⟨y4, r4, rfl, rfl, rfl⟩⟩⟩⟩ := ha_
    split at h_
    · rename_i l n_l q_l
      obtain ⟨e_l, h_⟩ := h_
      exact pure_got (rprov_pure (by omega) need now age (lsArg_ok hM_ hx_l q_l e_l)) hM_ (v := .b _) rfl h_
    · exact h_.elim
  · exact h_.elim
abbrev spP {A : Go.Rx.Alg} : Go.Rx.SpL A := [(AW, Go.Rx.awakeS), (12, provS), (13, rprovS)]
theorem spP_ok {ov : Bool} {d : Nat} (hd : 300 ≤ d) : SpOK (fs := fst) (ov := ov) Try.prog AW d spP := SpOK.cons awake_ok (SpOK.cons (provS_ok (by omega)) (SpOK.cons (rprovS_ok (by omega)) SpOK.nil))
theorem spP_aw {fs : Fs} {ov : Bool} : (spOf (A := stdA fs ov) spP AW).isSome = true := rfl
theorem proves_eq (need now age : Int) (l : Ll) (KK : KS (stdA fst true)) : sFunc Try.prog 30 (sCall Try.prog 30 (spOf spP) noLoop 20) noLoop 3 [.ls false 0 (Ll.len l), .i .i64 need, .i .i64 now, .i .i64 age] (lsMem 0 [([.int .i64, .bool, .int .i64], l)]) 1 KK =
  (cond (decide ((Ll.len l) > (26 : Int)))
 (KK (.b true) (lsMem 0 [([.int .i64, .bool, .int .i64], l)]) 1 [])
 ((Ll.len l) = (Ll.len l) ∧ (cond (decide ((Ll.len l) = (0 : Int)))
 ((Ll.len []) = (Ll.len []) ∧ ((Ll.len l) = (Ll.len l) ∧ (cond ((provB [] need now age) == (provB l need now age))
 (KK (.b true) (lsMem 0 [([.int .i64, .bool, .int .i64], l)]) 1 [])
 (KK (.b false) (lsMem 0 [([.int .i64, .bool, .int .i64], l)]) 1 []))))
 ((Ll.len l) ≤ (1000000 : Int) ∧ ((Ll.len l) = (Ll.len l) ∧ ((Ll.len l) = (Ll.len l) ∧ (cond ((provB l need now age) == (provB l need now age))
 (KK (.b true) (lsMem 0 [([.int .i64, .bool, .int .i64], l)]) 1 [])
 (KK (.b false) (lsMem 0 [([.int .i64, .bool, .int .i64], l)]) 1 [])))))))) := by kernel_rfl
theorem proves_pure {m : Nat} (hm : 400 ≤ m) {H : Hp} {nx : Nat} (need now age : Int) {v_l : LV} {l : Ll} (hl_l : IsL H nx [.int .i64, .bool, .int .i64] l v_l) : Pure Try.prog AW m 3 [v_l, .i .i64 need, .i .i64 now, .i .i64 age] H nx (.b true) := by
  obtain ⟨ν, n1, n2, n3, n4⟩ := ls_in (fs := fst) (ov := true) (l := [([.int .i64, .bool, .int .i64], l)]) (lvs := [v_l]) 0 (fun i x lv e1 e2 => by
    cases i with
    | zero => simp at e1 e2; subst e1 e2; exact hl_l
    | succ i =>
      simp at e1) rfl
  refine pure_of (n := 20) (d := m - 21) (U := 30) (fs := fst) (ov := true) (spP_ok (by omega)) spP_aw noLoop_ok (by decide) (by decide) (by omega) (args := [.ls false 0 (Ll.len l), .i .i64 need, .i .i64 now, .i .i64 age]) (M := lsMem 0 [([.int .i64, .bool, .int .i64], l)]) (snx := 1) ?_ (VSL.cons (n4 0 _ _ rfl rfl) (VSL.cons rfl (VSL.cons rfl (VSL.cons rfl rfl)))) (hs_in n2 n3)
  rw [proves_eq]
  have hl : Ll.len l = (l.length : Int) := rfl
  simp only [cond_iff]
  refine ⟨fun h => end_b rfl, fun h => ⟨by trivial, fun h2 => ⟨by trivial, by trivial, ?_⟩, fun h2 => ⟨by omega, by trivial, by trivial, ?_⟩⟩⟩
  · have : l = [] := List.length_eq_zero_iff.1 (by omega)
    subst this
    rw [beq_self_eq_true]
    exact end_b rfl
  · rw [beq_self_eq_true]
    exact end_b rfl
end Go.Proofs.Ytlbimnefemcaaaa
