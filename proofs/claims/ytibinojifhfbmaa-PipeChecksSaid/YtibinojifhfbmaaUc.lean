/-
  Layer 4: PipeChecks' call.
-/
import Derived.Test.YtibinojifhfbmaaUb
set_option linter.unusedSimpArgs false
set_option linter.unusedVariables false
set_option maxRecDepth 100000
namespace Go.Proofs.Ytibinojifhfbmaa
open Go Go.Rx

abbrev spJ {A : Go.Rx.Alg} : Go.Rx.SpL A := [(AW, Go.Rx.awakeS), (16, jointsS), (17, rjointsS)]
theorem spJ_ok {ov : Bool} {d : Nat} (hd : 500 ≤ d) : SpOK (fs := fsu) (ov := ov) Try.prog AW d spJ := SpOK.cons awake_ok (SpOK.cons (jointsS_ok (by omega)) (SpOK.cons (rjointsS_ok (by omega)) SpOK.nil))
theorem spJ_aw {fs : Fs} {ov : Bool} : (spOf (A := stdA fs ov) spJ AW).isSome = true := rfl
theorem nr_eq (lo hi i : Int) (g : Ll) (T : Al (SV (stdA fsu true))) (M : Al (SO (stdA fsu true))) (KK : Ex → List (SV (stdA fsu true)) → List (SO (stdA fsu true)) → List Ll → Prop) : sCode Try.prog (sCall Try.prog 30 (spOf sp0) noLoop 20) (noLoop 40) 30 (false :: [false, true, false, true]) (bodyAt Try.prog 40 [false, true, false, true]) (hdL (bodyAt Try.prog 40 [false, true, false, true]) T M 19 5 [(0, .ls true 4 (Ll.len g)), (7, .i .i64 (Ll.len g)), (1, .fn 36 [] [.p 2 0, .p 3 0])] [(4, .list 2 [.int .i64] true g), (2, .row 2 [.i .i64 lo]), (3, .row 2 [.i .i64 hi])] [(8, .i .i64 i)] [] [] [] []) (outL 5 (tsOf [8] [4]) [] [] [] KK) =
  (cond (decide (i < (Ll.len g)))
 ((0 : Int) ≤ i ∧ (i < (Ll.len g) ∧ (i < (Ll.len g) ∧ (cond (decide (lo ≤ (Ll.get g i 0)))
 (cond (decide ((Ll.get g i 0) ≤ hi))
 (KK .ret [(.i .i64 i)] [] [])
 (InK .i64 (i + (1 : Int)) ∧ (KK .normal [(.i .i64 (i + (1 : Int)))] [] [])))
 (InK .i64 (i + (1 : Int)) ∧ (KK .normal [(.i .i64 (i + (1 : Int)))] [] []))))))
 (KK (.exit 0) [(.i .i64 i)] [] [])) := by kernel_rfl
theorem nr_go (lo : Int) (hi : Int) (g : Ll) (i : Int) (i_0 : Int) (r1 : i_0 = (0 : Int)) (T : Al (SV (stdA fsu true))) (M : Al (SO (stdA fsu true))) (KK : Ex → List (SV (stdA fsu true)) → List (SO (stdA fsu true)) → List Ll → Prop) (p1 : (Ll.len g) ≤ (1000000 : Int)) (hI : 0 ≤ i ∧ i ≤ nearI g lo hi) (hn : ∀ (i' : Int), 0 ≤ i' ∧ i' ≤ nearI g lo hi → (2000000 - i').toNat < (2000000 - i).toNat → KK .normal [.i .i64 i'] [] []) (hx1 : (nearB g lo hi) = true → KK .ret [.i .i64 (nearI g lo hi)] [] []) (hx2 : (nearB g lo hi) = false → KK (.exit 0) [.i .i64 (Ll.len g)] [] []) :
    sCode Try.prog (sCall Try.prog 30 (spOf sp0) noLoop 20) (noLoop 40) 30 (false :: [false, true, false, true]) (bodyAt Try.prog 40 [false, true, false, true]) (hdL (bodyAt Try.prog 40 [false, true, false, true]) T M 19 5 [(0, .ls true 4 (Ll.len g)), (7, .i .i64 (Ll.len g)), (1, .fn 36 [] [.p 2 0, .p 3 0])] [(4, .list 2 [.int .i64] true g), (2, .row 2 [.i .i64 lo]), (3, .row 2 [.i .i64 hi])] [(8, .i .i64 i)] [] [] [] []) (outL 5 (tsOf [8] [4]) [] [] [] KK) := by
  refine Eq.mpr (nr_eq lo hi i g T M KK) ?_
  have hl : Ll.len g = (g.length : Int) := rfl
  obtain ⟨i0, i1⟩ := hI
  by_cases h : i < Ll.len g
  · rw [decide_eq_true h]
    have hs := leastN_step (p := nearP g lo hi) (k := g.length) i0 i1 (by omega)
    have hg : nearP g lo hi i = (decide (lo ≤ Ll.get g i 0) && decide (Ll.get g i 0 ≤ hi)) := rfl
    have stop : nearP g lo hi i = true → KK .ret [.i .i64 i] [] [] := fun hb => by
      have e : nearI g lo hi = i := hs.1 hb
      try rw [e] at hx1
      exact hx1 (decide_eq_true (by rw [e]; omega))
    have next : nearP g lo hi i = false → KK .normal [.i .i64 (i + 1)] [] [] := fun hb => hn (i + 1) ⟨by omega, hs.2 hb⟩ (by omega)
    try simp only [ge_iff_le]
    generalize decide (lo ≤ Ll.get g i 0) = B1 at *
    generalize decide (Ll.get g i 0 ≤ hi) = B2 at *
    cases B1 <;> cases B2 <;> first | exact ⟨i0, h, h, stop hg⟩ | exact ⟨i0, h, h, by rw [InK64]; omega, next hg⟩
  · rw [decide_eq_false h]
    obtain ⟨_, a2, _, _⟩ := leastN_spec (nearP g lo hi) g.length 0
    have a3 : nearI g lo hi ≤ g.length := by unfold nearI; omega
    obtain rfl : i = Ll.len g := by omega
    exact hx2 (decide_eq_false (by omega))
abbrev nrF {A : Go.Rx.Alg} : Code → Go.Rx.SS A → (Go.Rx.Ex → Go.Rx.SS A → A.R) → A.R := fun c_ s_ K_ => match s_.T.get 0, s_.T.get 7, s_.T.get 1, s_.H.get 4, s_.H.get 2, s_.H.get 3, s_.T.get 8 with
  | some (.ls true 4 m1), some (.i .i64 m2), some (.fn f3 [] [.p 2 0, .p 3 0]), some (.list t4 k4 true g), some (.row t5 [.i .i64 lo]), some (.row t6 [.i .i64 hi]), some (.i .i64 i) => bif ((((((Nat.beq s_.N 19 && Nat.beq s_.nx 5) && Nat.beq f3 36) && Nat.beq t4 2) && decide (k4 = [.int .i64])) && Nat.beq t5 2) && Nat.beq t6 2) then (A.need .eql m1 (A.len g) (A.need .eql m2 (A.len g) (A.need .eql i (A.lit 0) (A.need .leq (A.len g) (A.lit 1000000) ((A.br (A.appB 33 [g] [lo, hi]) (fun _ => K_ .ret (Go.Rx.hdL c_ s_.T (Go.Rx.kills [] s_.H) 19 5 [(0, .ls true 4 (A.len g)), (7, .i .i64 (A.len g)), (1, .fn 36 [] [.p 2 0, .p 3 0])] [(4, .list 2 [.int .i64] true g), (2, .row 2 [.i .i64 lo]), (3, .row 2 [.i .i64 hi])] [(4, .i .i64 (A.app 8 [g] [lo, hi]))] [] [] [] (Go.Rx.addW ([] ++ []) s_.wr))) (fun _ => K_ (.exit 0) (Go.Rx.hdL c_ s_.T (Go.Rx.kills [] s_.H) 19 5 [(0, .ls true 4 (A.len g)), (7, .i .i64 (A.len g)), (1, .fn 36 [] [.p 2 0, .p 3 0])] [(4, .list 2 [.int .i64] true g), (2, .row 2 [.i .i64 lo]), (3, .row 2 [.i .i64 hi])] [(8, .i .i64 (A.len g))] [] [] [] (Go.Rx.addW ([] ++ []) s_.wr))))))))) else A.fail "frame of nr"
  | _, _, _, _, _, _, _ => A.fail "nr"
theorem nrF_ok {d : Nat} (hd : 100 ≤ d) : LoopOK (fs := fsu) (ov := true) Try.prog AW d 40 [false, true, false, true] nrF := by
  intro m_ hm_ fn_ c0_ hfn_ hb_ c_ ro_ hc_ s_ K_ W_ ν_ S_ h_ hs_
  obtain rfl := body_of hfn_ hb_ hc_
  simp only [nrF] at h_
  split at h_
  · rename_i m1_0 m2_0 f3 t4 k4 g_0 t5 lo_0 t6 hi_0 i_0_0 g0 g1 g2 g3 g4 g5 g6
    obtain ⟨m1, rfl⟩ : ∃ q : Int, q = m1_0 := ⟨m1_0, rfl⟩
    obtain ⟨m2, rfl⟩ : ∃ q : Int, q = m2_0 := ⟨m2_0, rfl⟩
    obtain ⟨g, rfl⟩ : ∃ q : Ll, q = g_0 := ⟨g_0, rfl⟩
    obtain ⟨lo, rfl⟩ : ∃ q : Int, q = lo_0 := ⟨lo_0, rfl⟩
    obtain ⟨hi, rfl⟩ : ∃ q : Int, q = hi_0 := ⟨hi_0, rfl⟩
    obtain ⟨i_0, rfl⟩ : ∃ q : Int, q = i_0_0 := ⟨i_0_0, rfl⟩
    obtain ⟨T_, FN_, M_, snx_, wr_⟩ := s_
    have hN : ((((((Nat.beq FN_ 19 && Nat.beq snx_ 5) && Nat.beq f3 36) && Nat.beq t4 2) && decide (k4 = [.int .i64])) && Nat.beq t5 2) && Nat.beq t6 2) = true := by
      cases hq : (((((((Nat.beq FN_ 19 && Nat.beq snx_ 5) && Nat.beq f3 36) && Nat.beq t4 2) && decide (k4 = [.int .i64])) && Nat.beq t5 2) && Nat.beq t6 2) : Bool) with
      | true => rfl
      | false => (rw [hq] at h_; exact h_.elim)
    rw [hN, cond_true] at h_
    simp only [Bool.and_eq_true, beq_iff, decide_eq_true_eq] at hN
    obtain ⟨⟨⟨⟨⟨⟨rfl, rfl⟩, rfl⟩, rfl⟩, rfl⟩, rfl⟩, rfl⟩ := hN
    obtain ⟨q0, h_⟩ := h_
    obtain rfl : m1 = (Ll.len g) := q0
    obtain ⟨q0, h_⟩ := h_
    obtain rfl : m2 = (Ll.len g) := q0
    obtain ⟨q1, h_⟩ := h_
    have q1 : i_0 = (0 : Int) := q1
    obtain ⟨q2, h_⟩ := h_
    have q2 : (Ll.len g) ≤ (1000000 : Int) := q2
    replace h_ : cond (nearB g lo hi) (K_ .ret (hdL (bodyAt Try.prog 40 [false, true, false, true]) T_ (kills [] M_) 19 5 [(0, .ls true 4 (Ll.len g)), (7, .i .i64 (Ll.len g)), (1, .fn 36 [] [.p 2 0, .p 3 0])] [(4, .list 2 [.int .i64] true g), (2, .row 2 [.i .i64 lo]), (3, .row 2 [.i .i64 hi])] [(4, .i .i64 (nearI g lo hi))] [] [] [] (addW ([] ++ []) wr_))) (K_ (.exit 0) (hdL (bodyAt Try.prog 40 [false, true, false, true]) T_ (kills [] M_) 19 5 [(0, .ls true 4 (Ll.len g)), (7, .i .i64 (Ll.len g)), (1, .fn 36 [] [.p 2 0, .p 3 0])] [(4, .list 2 [.int .i64] true g), (2, .row 2 [.i .i64 lo]), (3, .row 2 [.i .i64 hi])] [(8, .i .i64 (Ll.len g))] [] [] [] (addW ([] ++ []) wr_))) := h_
    have hx1 : (nearB g lo hi) = true → K_ .ret (hdL (bodyAt Try.prog 40 [false, true, false, true]) T_ (kills [] M_) 19 5 [(0, .ls true 4 (Ll.len g)), (7, .i .i64 (Ll.len g)), (1, .fn 36 [] [.p 2 0, .p 3 0])] [(4, .list 2 [.int .i64] true g), (2, .row 2 [.i .i64 lo]), (3, .row 2 [.i .i64 hi])] [(4, .i .i64 (nearI g lo hi))] [] [] [] (addW ([] ++ []) wr_)) := fun e1 => by
      have h2 := h_
      rw [e1] at h2; simp only [cond_true, cond_false] at h2; exact h2
    have hx2 : (nearB g lo hi) = false → K_ (.exit 0) (hdL (bodyAt Try.prog 40 [false, true, false, true]) T_ (kills [] M_) 19 5 [(0, .ls true 4 (Ll.len g)), (7, .i .i64 (Ll.len g)), (1, .fn 36 [] [.p 2 0, .p 3 0])] [(4, .list 2 [.int .i64] true g), (2, .row 2 [.i .i64 lo]), (3, .row 2 [.i .i64 hi])] [(8, .i .i64 (Ll.len g))] [] [] [] (addW ([] ++ []) wr_)) := fun e1 => by
      have h2 := h_
      rw [e1] at h2; simp only [cond_true, cond_false] at h2; exact h2
    refine loop_ruleL (fs := fsu) (ov := true) (s := ⟨T_, 19, M_, 5, wr_⟩) (X := Int) (B := []) (mv := []) (kt := [(0, .ls true 4 (Ll.len g)), (7, .i .i64 (Ll.len g)), (1, .fn 36 [] [.p 2 0, .p 3 0])]) (kr := [(4, .list 2 [.int .i64] true g), (2, .row 2 [.i .i64 lo]), (3, .row 2 [.i .i64 hi])]) (ty := []) (x := (i_0))
      (Inv := (fun x : Int => match x with | (i) => 0 ≤ i ∧ i ≤ nearI g lo hi)) (μ := (fun x : Int => match x with | (i) => (2000000 - i).toNat)) (ts := tsOf [8] [4]) (sl := (fun x : Int => match x with | (i) => [.i .i64 i])) (bl := (fun x : Int => match x with | (i) => [])) (ll := (fun x : Int => match x with | (i) => [])) (Q := fun e_ vs_ os_ hs_ => K_ e_ (hdL (bodyAt Try.prog 40 [false, true, false, true]) T_ (kills [] M_) 19 5 [(0, .ls true 4 (Ll.len g)), (7, .i .i64 (Ll.len g)), (1, .fn 36 [] [.p 2 0, .p 3 0])] [(4, .list 2 [.int .i64] true g), (2, .row 2 [.i .i64 lo]), (3, .row 2 [.i .i64 hi])] (((tsOf [8] [4]) e_).zip vs_) ([].zip os_) [] hs_ (addW ([] ++ []) wr_)))
      (L := LL) (U := 30) (cs := sCall Try.prog 30 (spOf sp0) noLoop 20) (call := CN Try.prog AW m_) (lp := noLoop 40) (root := c0_) (p := [false, true, false, true])
      (show CallSOK _ _ from by
        have := sCall_ok (P := Try.prog) (d := m_ - 20) (U := 30) (lp := noLoop) (sp0_ok (fs := fsu) (ov := true) (d := m_ - 20)) (sp0_aw (fs := fsu) (ov := true)) (noLoop_ok) (by decide) 20
        rwa [show 20 + (m_ - 20) = m_ by omega] at this) (fun p f h => by cases h) (by decide) hc_
      (fun x o ho => by cases ho)
      (fun x hx => by cases hx) (fun x hx => by cases hx) (fun x hx => by cases hx)
      (fun x hx => by
        simp only [List.mem_cons, List.not_mem_nil, or_false] at hx
        rcases hx with rfl | rfl | rfl
        · exact g0
        · exact g1
        · exact g2) (fun x hx => by
        simp only [List.mem_cons, List.not_mem_nil, or_false] at hx
        rcases hx with rfl | rfl | rfl
        · exact ⟨g3, by simp⟩
        · exact ⟨g4, by simp⟩
        · exact ⟨g5, by simp⟩) ?_ (fun _ _ _ _ _ h => h) ?_ ?_ ?_ hs_
    · rintro i hI
      exact nr_go lo hi g i i_0 q1 T_ (kills [] M_) _ q2 hI (fun i' ha hb => ⟨(i'), ha, hb, rfl, rfl, rfl⟩) (fun e1 => ⟨by simp [SO.mine], hx1 e1⟩) (fun e1 => ⟨by simp [SO.mine], hx2 e1⟩)
    · show 0 ≤ i_0 ∧ i_0 ≤ nearI g lo hi
      exact ⟨by omega, by rw [q1]; exact (leastN_spec (nearP g lo hi) g.length 0).1⟩
    · show (2000000 - i_0).toNat < LL
      exact Nat.lt_of_le_of_lt (show _ ≤ 2000000 by omega) (by decide)
    · exact ⟨⟨[.i .i64 i_0], [], [], [], by simp [gets, tsOf, g0, g1, g2, g3, g4, g5, g6], by simp [gets, g0, g1, g2, g3, g4, g5, g6], rfl, rfl, by simp [listsOf] <;> rfl⟩⟩
  · exact h_.elim
abbrev lpNr {A : Go.Rx.Alg} : Nat → Go.Rx.LoopS A := Go.Rx.lpOf [(40, [false, true, false, true], nrF)]
theorem lpNr_ok {d : Nat} (hd : 100 ≤ d) : LoopsAll (fs := fsu) (ov := true) Try.prog AW d lpNr := lpOf_ok fun x hx => by
  simp only [List.mem_cons, List.not_mem_nil, or_false] at hx
  rcases hx with rfl
  · exact nrF_ok (by omega)
theorem rnr_eq (lo hi i : Int) (g : Ll) (T : Al (SV (stdA fsu true))) (M : Al (SO (stdA fsu true))) (KK : Ex → List (SV (stdA fsu true)) → List (SO (stdA fsu true)) → List Ll → Prop) : sCode Try.prog (sCall Try.prog 30 (spOf sp0) noLoop 20) (noLoop 19) 30 (false :: [false, true, false, true, true]) (bodyAt Try.prog 19 [false, true, false, true, true]) (hdL (bodyAt Try.prog 19 [false, true, false, true, true]) T M 24 3 [(7, .ls true 2 (Ll.len g)), (1, .i .i64 lo), (2, .i .i64 hi)] [(2, .list 2 [.int .i64] true g)] [(8, .i .i64 i)] [] [] [] []) (outL 3 (tsOf [8] [6]) [] [] [] KK) =
  (cond (decide (i < (Ll.len g)))
 ((0 : Int) ≤ i ∧ (i < (Ll.len g) ∧ (i < (Ll.len g) ∧ (cond (decide ((Ll.get g i 0) ≥ lo))
 (cond (decide ((Ll.get g i 0) ≤ hi))
 (KK .ret [(.b true)] [] [])
 (InK .i64 (i + (1 : Int)) ∧ (KK .normal [(.i .i64 (i + (1 : Int)))] [] [])))
 (InK .i64 (i + (1 : Int)) ∧ (KK .normal [(.i .i64 (i + (1 : Int)))] [] []))))))
 (KK (.exit 0) [(.i .i64 i)] [] [])) := by kernel_rfl
theorem rnr_go (lo : Int) (hi : Int) (g : Ll) (i : Int) (i_0 : Int) (r1 : i_0 = (0 : Int)) (T : Al (SV (stdA fsu true))) (M : Al (SO (stdA fsu true))) (KK : Ex → List (SV (stdA fsu true)) → List (SO (stdA fsu true)) → List Ll → Prop) (p1 : (Ll.len g) ≤ (1000000 : Int)) (hI : 0 ≤ i ∧ i ≤ nearI g lo hi) (hn : ∀ (i' : Int), 0 ≤ i' ∧ i' ≤ nearI g lo hi → (2000000 - i').toNat < (2000000 - i).toNat → KK .normal [.i .i64 i'] [] []) (hx1 : (nearB g lo hi) = true → KK .ret [.b true] [] []) (hx2 : (nearB g lo hi) = false → KK (.exit 0) [.i .i64 (Ll.len g)] [] []) :
    sCode Try.prog (sCall Try.prog 30 (spOf sp0) noLoop 20) (noLoop 19) 30 (false :: [false, true, false, true, true]) (bodyAt Try.prog 19 [false, true, false, true, true]) (hdL (bodyAt Try.prog 19 [false, true, false, true, true]) T M 24 3 [(7, .ls true 2 (Ll.len g)), (1, .i .i64 lo), (2, .i .i64 hi)] [(2, .list 2 [.int .i64] true g)] [(8, .i .i64 i)] [] [] [] []) (outL 3 (tsOf [8] [6]) [] [] [] KK) := by
  refine Eq.mpr (rnr_eq lo hi i g T M KK) ?_
  have hl : Ll.len g = (g.length : Int) := rfl
  obtain ⟨i0, i1⟩ := hI
  by_cases h : i < Ll.len g
  · rw [decide_eq_true h]
    have hs := leastN_step (p := nearP g lo hi) (k := g.length) i0 i1 (by omega)
    have hg : nearP g lo hi i = (decide (lo ≤ Ll.get g i 0) && decide (Ll.get g i 0 ≤ hi)) := rfl
    have stop : nearP g lo hi i = true → KK .ret [.b true] [] [] := fun hb => by
      have e : nearI g lo hi = i := hs.1 hb
      try rw [e] at hx1
      exact hx1 (decide_eq_true (by rw [e]; omega))
    have next : nearP g lo hi i = false → KK .normal [.i .i64 (i + 1)] [] [] := fun hb => hn (i + 1) ⟨by omega, hs.2 hb⟩ (by omega)
    try simp only [ge_iff_le]
    generalize decide (lo ≤ Ll.get g i 0) = B1 at *
    generalize decide (Ll.get g i 0 ≤ hi) = B2 at *
    cases B1 <;> cases B2 <;> first | exact ⟨i0, h, h, stop hg⟩ | exact ⟨i0, h, h, by rw [InK64]; omega, next hg⟩
  · rw [decide_eq_false h]
    obtain ⟨_, a2, _, _⟩ := leastN_spec (nearP g lo hi) g.length 0
    have a3 : nearI g lo hi ≤ g.length := by unfold nearI; omega
    obtain rfl : i = Ll.len g := by omega
    exact hx2 (decide_eq_false (by omega))
abbrev rnrF {A : Go.Rx.Alg} : Code → Go.Rx.SS A → (Go.Rx.Ex → Go.Rx.SS A → A.R) → A.R := fun c_ s_ K_ => match s_.T.get 7, s_.T.get 1, s_.T.get 2, s_.H.get 2, s_.T.get 8 with
  | some (.ls true 2 m1), some (.i .i64 lo), some (.i .i64 hi), some (.list t2 k2 true g), some (.i .i64 i) => bif (((Nat.beq s_.N 24 && Nat.beq s_.nx 3) && Nat.beq t2 2) && decide (k2 = [.int .i64])) then (A.need .eql m1 (A.len g) (A.need .eql i (A.lit 0) (A.need .leq (A.len g) (A.lit 1000000) ((A.br (A.appB 33 [g] [lo, hi]) (fun _ => K_ .ret (Go.Rx.hdL c_ s_.T (Go.Rx.kills [] s_.H) 24 3 [(7, .ls true 2 (A.len g)), (1, .i .i64 lo), (2, .i .i64 hi)] [(2, .list 2 [.int .i64] true g)] [(6, .b (A.ofB true))] [] [] [] (Go.Rx.addW ([] ++ []) s_.wr))) (fun _ => K_ (.exit 0) (Go.Rx.hdL c_ s_.T (Go.Rx.kills [] s_.H) 24 3 [(7, .ls true 2 (A.len g)), (1, .i .i64 lo), (2, .i .i64 hi)] [(2, .list 2 [.int .i64] true g)] [(8, .i .i64 (A.len g))] [] [] [] (Go.Rx.addW ([] ++ []) s_.wr)))))))) else A.fail "frame of rnr"
  | _, _, _, _, _ => A.fail "rnr"
theorem rnrF_ok {d : Nat} (hd : 100 ≤ d) : LoopOK (fs := fsu) (ov := true) Try.prog AW d 19 [false, true, false, true, true] rnrF := by
  intro m_ hm_ fn_ c0_ hfn_ hb_ c_ ro_ hc_ s_ K_ W_ ν_ S_ h_ hs_
  obtain rfl := body_of hfn_ hb_ hc_
  simp only [rnrF] at h_
  split at h_
  · rename_i m1_0 lo_0 hi_0 t2 k2 g_0 i_0_0 g0 g1 g2 g3 g4
    obtain ⟨m1, rfl⟩ : ∃ q : Int, q = m1_0 := ⟨m1_0, rfl⟩
    obtain ⟨lo, rfl⟩ : ∃ q : Int, q = lo_0 := ⟨lo_0, rfl⟩
    obtain ⟨hi, rfl⟩ : ∃ q : Int, q = hi_0 := ⟨hi_0, rfl⟩
    obtain ⟨g, rfl⟩ : ∃ q : Ll, q = g_0 := ⟨g_0, rfl⟩
    obtain ⟨i_0, rfl⟩ : ∃ q : Int, q = i_0_0 := ⟨i_0_0, rfl⟩
    obtain ⟨T_, FN_, M_, snx_, wr_⟩ := s_
    have hN : (((Nat.beq FN_ 24 && Nat.beq snx_ 3) && Nat.beq t2 2) && decide (k2 = [.int .i64])) = true := by
      cases hq : ((((Nat.beq FN_ 24 && Nat.beq snx_ 3) && Nat.beq t2 2) && decide (k2 = [.int .i64])) : Bool) with
      | true => rfl
      | false => (rw [hq] at h_; exact h_.elim)
    rw [hN, cond_true] at h_
    simp only [Bool.and_eq_true, beq_iff, decide_eq_true_eq] at hN
    obtain ⟨⟨⟨rfl, rfl⟩, rfl⟩, rfl⟩ := hN
    obtain ⟨q0, h_⟩ := h_
    obtain rfl : m1 = (Ll.len g) := q0
    obtain ⟨q1, h_⟩ := h_
    have q1 : i_0 = (0 : Int) := q1
    obtain ⟨q2, h_⟩ := h_
    have q2 : (Ll.len g) ≤ (1000000 : Int) := q2
    replace h_ : cond (nearB g lo hi) (K_ .ret (hdL (bodyAt Try.prog 19 [false, true, false, true, true]) T_ (kills [] M_) 24 3 [(7, .ls true 2 (Ll.len g)), (1, .i .i64 lo), (2, .i .i64 hi)] [(2, .list 2 [.int .i64] true g)] [(6, .b true)] [] [] [] (addW ([] ++ []) wr_))) (K_ (.exit 0) (hdL (bodyAt Try.prog 19 [false, true, false, true, true]) T_ (kills [] M_) 24 3 [(7, .ls true 2 (Ll.len g)), (1, .i .i64 lo), (2, .i .i64 hi)] [(2, .list 2 [.int .i64] true g)] [(8, .i .i64 (Ll.len g))] [] [] [] (addW ([] ++ []) wr_))) := h_
    have hx1 : (nearB g lo hi) = true → K_ .ret (hdL (bodyAt Try.prog 19 [false, true, false, true, true]) T_ (kills [] M_) 24 3 [(7, .ls true 2 (Ll.len g)), (1, .i .i64 lo), (2, .i .i64 hi)] [(2, .list 2 [.int .i64] true g)] [(6, .b true)] [] [] [] (addW ([] ++ []) wr_)) := fun e1 => by
      have h2 := h_
      rw [e1] at h2; simp only [cond_true, cond_false] at h2; exact h2
    have hx2 : (nearB g lo hi) = false → K_ (.exit 0) (hdL (bodyAt Try.prog 19 [false, true, false, true, true]) T_ (kills [] M_) 24 3 [(7, .ls true 2 (Ll.len g)), (1, .i .i64 lo), (2, .i .i64 hi)] [(2, .list 2 [.int .i64] true g)] [(8, .i .i64 (Ll.len g))] [] [] [] (addW ([] ++ []) wr_)) := fun e1 => by
      have h2 := h_
      rw [e1] at h2; simp only [cond_true, cond_false] at h2; exact h2
    refine loop_ruleL (fs := fsu) (ov := true) (s := ⟨T_, 24, M_, 3, wr_⟩) (X := Int) (B := []) (mv := []) (kt := [(7, .ls true 2 (Ll.len g)), (1, .i .i64 lo), (2, .i .i64 hi)]) (kr := [(2, .list 2 [.int .i64] true g)]) (ty := []) (x := (i_0))
      (Inv := (fun x : Int => match x with | (i) => 0 ≤ i ∧ i ≤ nearI g lo hi)) (μ := (fun x : Int => match x with | (i) => (2000000 - i).toNat)) (ts := tsOf [8] [6]) (sl := (fun x : Int => match x with | (i) => [.i .i64 i])) (bl := (fun x : Int => match x with | (i) => [])) (ll := (fun x : Int => match x with | (i) => [])) (Q := fun e_ vs_ os_ hs_ => K_ e_ (hdL (bodyAt Try.prog 19 [false, true, false, true, true]) T_ (kills [] M_) 24 3 [(7, .ls true 2 (Ll.len g)), (1, .i .i64 lo), (2, .i .i64 hi)] [(2, .list 2 [.int .i64] true g)] (((tsOf [8] [6]) e_).zip vs_) ([].zip os_) [] hs_ (addW ([] ++ []) wr_)))
      (L := LL) (U := 30) (cs := sCall Try.prog 30 (spOf sp0) noLoop 20) (call := CN Try.prog AW m_) (lp := noLoop 19) (root := c0_) (p := [false, true, false, true, true])
      (show CallSOK _ _ from by
        have := sCall_ok (P := Try.prog) (d := m_ - 20) (U := 30) (lp := noLoop) (sp0_ok (fs := fsu) (ov := true) (d := m_ - 20)) (sp0_aw (fs := fsu) (ov := true)) (noLoop_ok) (by decide) 20
        rwa [show 20 + (m_ - 20) = m_ by omega] at this) (fun p f h => by cases h) (by decide) hc_
      (fun x o ho => by cases ho)
      (fun x hx => by cases hx) (fun x hx => by cases hx) (fun x hx => by cases hx)
      (fun x hx => by
        simp only [List.mem_cons, List.not_mem_nil, or_false] at hx
        rcases hx with rfl | rfl | rfl
        · exact g0
        · exact g1
        · exact g2) (fun x hx => by
        simp only [List.mem_cons, List.not_mem_nil, or_false] at hx
        rcases hx with rfl
        · exact ⟨g3, by simp⟩) ?_ (fun _ _ _ _ _ h => h) ?_ ?_ ?_ hs_
    · rintro i hI
      exact rnr_go lo hi g i i_0 q1 T_ (kills [] M_) _ q2 hI (fun i' ha hb => ⟨(i'), ha, hb, rfl, rfl, rfl⟩) (fun e1 => ⟨by simp [SO.mine], hx1 e1⟩) (fun e1 => ⟨by simp [SO.mine], hx2 e1⟩)
    · show 0 ≤ i_0 ∧ i_0 ≤ nearI g lo hi
      exact ⟨by omega, by rw [q1]; exact (leastN_spec (nearP g lo hi) g.length 0).1⟩
    · show (2000000 - i_0).toNat < LL
      exact Nat.lt_of_le_of_lt (show _ ≤ 2000000 by omega) (by decide)
    · exact ⟨⟨[.i .i64 i_0], [], [], [], by simp [gets, tsOf, g0, g1, g2, g3, g4], by simp [gets, g0, g1, g2, g3, g4], rfl, rfl, by simp [listsOf] <;> rfl⟩⟩
  · exact h_.elim
abbrev lpRnr {A : Go.Rx.Alg} : Nat → Go.Rx.LoopS A := Go.Rx.lpOf [(19, [false, true, false, true, true], rnrF)]
theorem lpRnr_ok {d : Nat} (hd : 100 ≤ d) : LoopsAll (fs := fsu) (ov := true) Try.prog AW d lpRnr := lpOf_ok fun x hx => by
  simp only [List.mem_cons, List.not_mem_nil, or_false] at hx
  rcases hx with rfl
  · exact rnrF_ok (by omega)
theorem near_eq (lo hi : Int) (l : Ll) (KK : KS (stdA fsu true)) : sFunc Try.prog 30 (sCall Try.prog 30 (spOf spJ) lpNr 20) lpNr 18 [.agg [.ls false 0 (Ll.len l)], .i .i64 lo, .i .i64 hi] (lsMem 0 [([.int .i64, .int .i64, .int .i64, .int .i64, .int .i64, .int .i64, .int .i64, .int .i64, .int .i64], l)]) 1 KK =
  ((Ll.len l) = (Ll.len l) ∧ ((Ll.len (jointsL l)) = (Ll.len (jointsL l)) ∧ ((Ll.len (jointsL l)) = (Ll.len (jointsL l)) ∧ ((0 : Int) = (0 : Int) ∧ ((Ll.len (jointsL l)) ≤ (1000000 : Int) ∧ (cond (nearB (jointsL l) lo hi)
 (KK (.b (decide ((nearI (jointsL l) lo hi) ≥ (0 : Int)))) (lsMem 0 [([.int .i64, .int .i64, .int .i64, .int .i64, .int .i64, .int .i64, .int .i64, .int .i64, .int .i64], l)]) 1 [])
 (KK (.b false) (lsMem 0 [([.int .i64, .int .i64, .int .i64, .int .i64, .int .i64, .int .i64, .int .i64, .int .i64, .int .i64], l)]) 1 []))))))) := by kernel_rfl
theorem near_pure {m : Nat} (hm : 600 ≤ m) {H : Hp} {nx : Nat} (lo hi : Int) {v_l : LV} {l : Ll} (hl_l : IsL H nx [.int .i64, .int .i64, .int .i64, .int .i64, .int .i64, .int .i64, .int .i64, .int .i64, .int .i64] l v_l) : Pure Try.prog AW m 18 [.agg [v_l], .i .i64 lo, .i .i64 hi] H nx (.b (nearB (jointsL l) lo hi)) := by
  obtain ⟨ν, n1, n2, n3, n4⟩ := ls_in (fs := fsu) (ov := true) (l := [([.int .i64, .int .i64, .int .i64, .int .i64, .int .i64, .int .i64, .int .i64, .int .i64, .int .i64], l)]) (lvs := [v_l]) 0 (fun i x lv e1 e2 => by
    cases i with
    | zero => simp at e1 e2; subst e1 e2; exact hl_l
    | succ i =>
      simp at e1) rfl
  refine pure_of (n := 20) (d := m - 21) (U := 30) (fs := fsu) (ov := true) (spJ_ok (by omega)) spJ_aw (lpNr_ok (by omega)) (by decide) (by decide) (by omega) (args := [.agg [.ls false 0 (Ll.len l)], .i .i64 lo, .i .i64 hi]) (M := lsMem 0 [([.int .i64, .int .i64, .int .i64, .int .i64, .int .i64, .int .i64, .int .i64, .int .i64, .int .i64], l)]) (snx := 1) ?_ (VSL.cons ⟨_, rfl, (VSL.cons (n4 0 _ _ rfl rfl) rfl)⟩ (VSL.cons rfl (VSL.cons rfl rfl))) (hs_in n2 n3)
  rw [near_eq]
  have hj := joints_len l
  have hl : Ll.len (jointsL l) = ((jointsL l).length : Int) := rfl
  have c0 : nearB (jointsL l) lo hi = decide (nearI (jointsL l) lo hi < (jointsL l).length) := rfl
  have g0 : 0 ≤ nearI (jointsL l) lo hi := (leastN_spec (nearP (jointsL l) lo hi) (jointsL l).length 0).1
  try rw [show decide (nearI (jointsL l) lo hi ≥ 0) = true from decide_eq_true g0]
  cases hb : nearB (jointsL l) lo hi <;> (repeat' (first | exact end_b rfl | apply And.intro)) <;> first | trivial | omega | exact end_b rfl
abbrev nearS {A : Go.Rx.Alg} : List (Go.Rx.SV A) → Go.Rx.SH A → Nat → Go.Rx.KS A → A.R := fun args_ M_ snx_ K_ => match args_ with
  | [.agg [x_l], .i .i64 lo, .i .i64 hi] => (match Go.Rx.lsArg M_ [.int .i64, .int .i64, .int .i64, .int .i64, .int .i64, .int .i64, .int .i64, .int .i64, .int .i64] x_l with | some (l, n_l) => (A.need .eql n_l (A.len l) (K_ (.b (A.appB 35 [l] [lo, hi])) M_ snx_ [])) | none => A.fail "near")
  | _ => A.fail "near"
theorem nearS_ok {ov : Bool} {d : Nat} (hd : 600 ≤ d) : SpecOK (fs := fsu) (ov := ov) Try.prog AW d 18 nearS := by
  intro m_ hm_ args_ M_ snx_ K_ h_ ν_ largs_ H_ nx_ ha_ hM_
  unfold nearS at h_
  split at h_
  · rename_i x_l lo hi
    obtain ⟨y1, r1, rfl, ⟨l1, rfl, ⟨v_l, r2, rfl, hx_l, rfl⟩⟩, ⟨y3, r3, rfl, rfl, ⟨y4, r4, rfl, rfl, rfl⟩⟩⟩ := ha_
    split at h_
    · rename_i l n_l q_l
      obtain ⟨e_l, h_⟩ := h_
      exact pure_got (near_pure (by omega) lo hi (lsArg_ok hM_ hx_l q_l e_l)) hM_ (v := .b _) rfl h_
    · exact h_.elim
  · exact h_.elim
theorem rnear_eq (lo hi : Int) (l : Ll) (KK : KS (stdA fsu true)) : sFunc Try.prog 30 (sCall Try.prog 30 (spOf spJ) lpRnr 20) lpRnr 19 [.agg [.ls false 0 (Ll.len l)], .i .i64 lo, .i .i64 hi] (lsMem 0 [([.int .i64, .int .i64, .int .i64, .int .i64, .int .i64, .int .i64, .int .i64, .int .i64, .int .i64], l)]) 1 KK =
  ((Ll.len l) = (Ll.len l) ∧ ((Ll.len (jointsL l)) = (Ll.len (jointsL l)) ∧ ((0 : Int) = (0 : Int) ∧ ((Ll.len (jointsL l)) ≤ (1000000 : Int) ∧ (cond (nearB (jointsL l) lo hi)
 (KK (.b true) (lsMem 0 [([.int .i64, .int .i64, .int .i64, .int .i64, .int .i64, .int .i64, .int .i64, .int .i64, .int .i64], l)]) 1 [])
 (KK (.b false) (lsMem 0 [([.int .i64, .int .i64, .int .i64, .int .i64, .int .i64, .int .i64, .int .i64, .int .i64, .int .i64], l)]) 1 [])))))) := by kernel_rfl
theorem rnear_pure {m : Nat} (hm : 600 ≤ m) {H : Hp} {nx : Nat} (lo hi : Int) {v_l : LV} {l : Ll} (hl_l : IsL H nx [.int .i64, .int .i64, .int .i64, .int .i64, .int .i64, .int .i64, .int .i64, .int .i64, .int .i64] l v_l) : Pure Try.prog AW m 19 [.agg [v_l], .i .i64 lo, .i .i64 hi] H nx (.b (nearB (jointsL l) lo hi)) := by
  obtain ⟨ν, n1, n2, n3, n4⟩ := ls_in (fs := fsu) (ov := true) (l := [([.int .i64, .int .i64, .int .i64, .int .i64, .int .i64, .int .i64, .int .i64, .int .i64, .int .i64], l)]) (lvs := [v_l]) 0 (fun i x lv e1 e2 => by
    cases i with
    | zero => simp at e1 e2; subst e1 e2; exact hl_l
    | succ i =>
      simp at e1) rfl
  refine pure_of (n := 20) (d := m - 21) (U := 30) (fs := fsu) (ov := true) (spJ_ok (by omega)) spJ_aw (lpRnr_ok (by omega)) (by decide) (by decide) (by omega) (args := [.agg [.ls false 0 (Ll.len l)], .i .i64 lo, .i .i64 hi]) (M := lsMem 0 [([.int .i64, .int .i64, .int .i64, .int .i64, .int .i64, .int .i64, .int .i64, .int .i64, .int .i64], l)]) (snx := 1) ?_ (VSL.cons ⟨_, rfl, (VSL.cons (n4 0 _ _ rfl rfl) rfl)⟩ (VSL.cons rfl (VSL.cons rfl rfl))) (hs_in n2 n3)
  rw [rnear_eq]
  have hj := joints_len l
  have hl : Ll.len (jointsL l) = ((jointsL l).length : Int) := rfl
  have c0 : nearB (jointsL l) lo hi = decide (nearI (jointsL l) lo hi < (jointsL l).length) := rfl
  have g0 : 0 ≤ nearI (jointsL l) lo hi := (leastN_spec (nearP (jointsL l) lo hi) (jointsL l).length 0).1
  try rw [show decide (nearI (jointsL l) lo hi ≥ 0) = true from decide_eq_true g0]
  cases hb : nearB (jointsL l) lo hi <;> (repeat' (first | exact end_b rfl | apply And.intro)) <;> first | trivial | omega | exact end_b rfl
abbrev rnearS {A : Go.Rx.Alg} : List (Go.Rx.SV A) → Go.Rx.SH A → Nat → Go.Rx.KS A → A.R := fun args_ M_ snx_ K_ => match args_ with
  | [.agg [x_l], .i .i64 lo, .i .i64 hi] => (match Go.Rx.lsArg M_ [.int .i64, .int .i64, .int .i64, .int .i64, .int .i64, .int .i64, .int .i64, .int .i64, .int .i64] x_l with | some (l, n_l) => (A.need .eql n_l (A.len l) (K_ (.b (A.appB 35 [l] [lo, hi])) M_ snx_ [])) | none => A.fail "rnear")
  | _ => A.fail "rnear"
theorem rnearS_ok {ov : Bool} {d : Nat} (hd : 600 ≤ d) : SpecOK (fs := fsu) (ov := ov) Try.prog AW d 19 rnearS := by
  intro m_ hm_ args_ M_ snx_ K_ h_ ν_ largs_ H_ nx_ ha_ hM_
  unfold rnearS at h_
  split at h_
  · rename_i x_l lo hi
    obtain ⟨y1, r1, rfl, ⟨l1, rfl, ⟨v_l, r2, rfl, hx_l, rfl⟩⟩, ⟨y3, r3, rfl, rfl, ⟨y4, r4, rfl, rfl, rfl⟩⟩⟩ := ha_
    split at h_
    · rename_i l n_l q_l
      obtain ⟨e_l, h_⟩ := h_
      exact pure_got (rnear_pure (by omega) lo hi (lsArg_ok hM_ hx_l q_l e_l)) hM_ (v := .b _) rfl h_
    · exact h_.elim
  · exact h_.elim
theorem sm_eq (i : Int) (a b : Ll) (T : Al (SV (stdA fsu true))) (M : Al (SO (stdA fsu true))) (KK : Ex → List (SV (stdA fsu true)) → List (SO (stdA fsu true)) → List Ll → Prop) : sCode Try.prog (sCall Try.prog 30 (spOf sp0) noLoop 20) (noLoop 20) 30 (false :: [false, true, false, true, true]) (bodyAt Try.prog 20 [false, true, false, true, true]) (hdL (bodyAt Try.prog 20 [false, true, false, true, true]) T M 31 4 [(2, .p 2 0), (3, .p 3 0)] [(0, .list 0 [.int .i64, .int .i64, .int .i64, .int .i64, .int .i64, .int .i64, .int .i64, .int .i64, .int .i64] false a), (1, .list 0 [.int .i64, .int .i64, .int .i64, .int .i64, .int .i64, .int .i64, .int .i64, .int .i64, .int .i64] false b), (2, .row 24 [.ls false 0 (Ll.len a)]), (3, .row 24 [.ls false 1 (Ll.len b)])] [(5, .i .i64 i)] [] [] [] []) (outL 4 (tsOf [5] [4]) [] [] [] KK) =
  (cond (decide (i < (Ll.len a)))
 ((0 : Int) ≤ i ∧ (i < (Ll.len a) ∧ (i < (Ll.len a) ∧ ((0 : Int) ≤ i ∧ (i < (Ll.len b) ∧ (i < (Ll.len b) ∧ (cond (!((decide ((Ll.get a i 0) = (Ll.get b i 0))) && ((decide ((Ll.get a i 1) = (Ll.get b i 1))) && ((decide ((Ll.get a i 2) = (Ll.get b i 2))) && ((decide ((Ll.get a i 3) = (Ll.get b i 3))) && ((decide ((Ll.get a i 4) = (Ll.get b i 4))) && ((decide ((Ll.get a i 5) = (Ll.get b i 5))) && ((decide ((Ll.get a i 6) = (Ll.get b i 6))) && ((decide ((Ll.get a i 7) = (Ll.get b i 7))) && (decide ((Ll.get a i 8) = (Ll.get b i 8))))))))))))
 (KK .ret [(.b false)] [] [])
 (InK .i64 (i + (1 : Int)) ∧ (KK .normal [(.i .i64 (i + (1 : Int)))] [] [])))))))))
 (KK (.exit 0) [(.i .i64 i)] [] [])) := by kernel_rfl
theorem sm_go (a : Ll) (b : Ll) (i : Int) (i_0 : Int) (r1 : i_0 = (0 : Int)) (T : Al (SV (stdA fsu true))) (M : Al (SO (stdA fsu true))) (KK : Ex → List (SV (stdA fsu true)) → List (SO (stdA fsu true)) → List Ll → Prop) (p1 : (Ll.len a) = (Ll.len b)) (p2 : (Ll.len a) ≤ (1000000 : Int)) (hI : 0 ≤ i ∧ i ≤ diffI a b) (hn : ∀ (i' : Int), 0 ≤ i' ∧ i' ≤ diffI a b → (2000000 - i').toNat < (2000000 - i).toNat → KK .normal [.i .i64 i'] [] []) (hx1 : (decide (diffI a b < a.length)) = true → KK .ret [.b false] [] []) (hx2 : (decide (diffI a b < a.length)) = false → KK (.exit 0) [.i .i64 (Ll.len a)] [] []) :
    sCode Try.prog (sCall Try.prog 30 (spOf sp0) noLoop 20) (noLoop 20) 30 (false :: [false, true, false, true, true]) (bodyAt Try.prog 20 [false, true, false, true, true]) (hdL (bodyAt Try.prog 20 [false, true, false, true, true]) T M 31 4 [(2, .p 2 0), (3, .p 3 0)] [(0, .list 0 [.int .i64, .int .i64, .int .i64, .int .i64, .int .i64, .int .i64, .int .i64, .int .i64, .int .i64] false a), (1, .list 0 [.int .i64, .int .i64, .int .i64, .int .i64, .int .i64, .int .i64, .int .i64, .int .i64, .int .i64] false b), (2, .row 24 [.ls false 0 (Ll.len a)]), (3, .row 24 [.ls false 1 (Ll.len b)])] [(5, .i .i64 i)] [] [] [] []) (outL 4 (tsOf [5] [4]) [] [] [] KK) := by
  refine Eq.mpr (sm_eq i a b T M KK) ?_
  have hl : Ll.len a = (a.length : Int) := rfl
  obtain ⟨i0, i1⟩ := hI
  by_cases h : i < Ll.len a
  · rw [decide_eq_true h]
    have hs := leastN_step (p := fun j => !rowEq a b j) (k := a.length) i0 i1 (by omega)
    refine ⟨i0, h, h, i0, by omega, by omega, ?_⟩
    show cond (!rowEq a b i) _ _
    cases hb : rowEq a b i with
    | false => exact hx1 (decide_eq_true (by have : diffI a b = i := hs.1 (by rw [hb]; rfl); omega))
    | true => exact ⟨by rw [InK64]; omega, hn (i + 1) ⟨by omega, hs.2 (by rw [hb]; rfl)⟩ (by omega)⟩
  · rw [decide_eq_false h]
    obtain ⟨_, a2, _, _⟩ := leastN_spec (fun j => !rowEq a b j) a.length 0
    have a3 : diffI a b ≤ a.length := by unfold diffI; omega
    obtain rfl : i = Ll.len a := by omega
    exact hx2 (decide_eq_false (by omega))
abbrev smF {A : Go.Rx.Alg} : Code → Go.Rx.SS A → (Go.Rx.Ex → Go.Rx.SS A → A.R) → A.R := fun c_ s_ K_ => match s_.T.get 2, s_.T.get 3, s_.H.get 0, s_.H.get 1, s_.H.get 2, s_.H.get 3, s_.T.get 5 with
  | some (.p 2 0), some (.p 3 0), some (.list t1 k1 false a), some (.list t2 k2 false b), some (.row t3 [.ls false 0 m4]), some (.row t5 [.ls false 1 m6]), some (.i .i64 i) => bif (((((((Nat.beq s_.N 31 && Nat.beq s_.nx 4) && Nat.beq t1 0) && decide (k1 = [.int .i64, .int .i64, .int .i64, .int .i64, .int .i64, .int .i64, .int .i64, .int .i64, .int .i64])) && Nat.beq t2 0) && decide (k2 = [.int .i64, .int .i64, .int .i64, .int .i64, .int .i64, .int .i64, .int .i64, .int .i64, .int .i64])) && Nat.beq t3 24) && Nat.beq t5 24) then (A.need .eql m4 (A.len a) (A.need .eql m6 (A.len b) (A.need .eql i (A.lit 0) (A.need .eql (A.len a) (A.len b) (A.need .leq (A.len a) (A.lit 1000000) ((A.br (A.appB 38 [a, b] []) (fun _ => K_ .ret (Go.Rx.hdL c_ s_.T (Go.Rx.kills [] s_.H) 31 4 [(2, .p 2 0), (3, .p 3 0)] [(0, .list 0 [.int .i64, .int .i64, .int .i64, .int .i64, .int .i64, .int .i64, .int .i64, .int .i64, .int .i64] false a), (1, .list 0 [.int .i64, .int .i64, .int .i64, .int .i64, .int .i64, .int .i64, .int .i64, .int .i64, .int .i64] false b), (2, .row 24 [.ls false 0 (A.len a)]), (3, .row 24 [.ls false 1 (A.len b)])] [(4, .b (A.ofB false))] [] [] [] (Go.Rx.addW ([] ++ []) s_.wr))) (fun _ => K_ (.exit 0) (Go.Rx.hdL c_ s_.T (Go.Rx.kills [] s_.H) 31 4 [(2, .p 2 0), (3, .p 3 0)] [(0, .list 0 [.int .i64, .int .i64, .int .i64, .int .i64, .int .i64, .int .i64, .int .i64, .int .i64, .int .i64] false a), (1, .list 0 [.int .i64, .int .i64, .int .i64, .int .i64, .int .i64, .int .i64, .int .i64, .int .i64, .int .i64] false b), (2, .row 24 [.ls false 0 (A.len a)]), (3, .row 24 [.ls false 1 (A.len b)])] [(5, .i .i64 (A.len a))] [] [] [] (Go.Rx.addW ([] ++ []) s_.wr)))))))))) else A.fail "frame of sm"
  | _, _, _, _, _, _, _ => A.fail "sm"
theorem smF_ok {d : Nat} (hd : 100 ≤ d) : LoopOK (fs := fsu) (ov := true) Try.prog AW d 20 [false, true, false, true, true] smF := by
  intro m_ hm_ fn_ c0_ hfn_ hb_ c_ ro_ hc_ s_ K_ W_ ν_ S_ h_ hs_
  obtain rfl := body_of hfn_ hb_ hc_
  simp only [smF] at h_
  split at h_
  · rename_i t1 k1 a_0 t2 k2 b_0 t3 m4_0 t5 m6_0 i_0_0 g0 g1 g2 g3 g4 g5 g6
    obtain ⟨a, rfl⟩ : ∃ q : Ll, q = a_0 := ⟨a_0, rfl⟩
    obtain ⟨b, rfl⟩ : ∃ q : Ll, q = b_0 := ⟨b_0, rfl⟩
    obtain ⟨m4, rfl⟩ : ∃ q : Int, q = m4_0 := ⟨m4_0, rfl⟩
    obtain ⟨m6, rfl⟩ : ∃ q : Int, q = m6_0 := ⟨m6_0, rfl⟩
    obtain ⟨i_0, rfl⟩ : ∃ q : Int, q = i_0_0 := ⟨i_0_0, rfl⟩
    obtain ⟨T_, FN_, M_, snx_, wr_⟩ := s_
    have hN : (((((((Nat.beq FN_ 31 && Nat.beq snx_ 4) && Nat.beq t1 0) && decide (k1 = [.int .i64, .int .i64, .int .i64, .int .i64, .int .i64, .int .i64, .int .i64, .int .i64, .int .i64])) && Nat.beq t2 0) && decide (k2 = [.int .i64, .int .i64, .int .i64, .int .i64, .int .i64, .int .i64, .int .i64, .int .i64, .int .i64])) && Nat.beq t3 24) && Nat.beq t5 24) = true := by
      cases hq : ((((((((Nat.beq FN_ 31 && Nat.beq snx_ 4) && Nat.beq t1 0) && decide (k1 = [.int .i64, .int .i64, .int .i64, .int .i64, .int .i64, .int .i64, .int .i64, .int .i64, .int .i64])) && Nat.beq t2 0) && decide (k2 = [.int .i64, .int .i64, .int .i64, .int .i64, .int .i64, .int .i64, .int .i64, .int .i64, .int .i64])) && Nat.beq t3 24) && Nat.beq t5 24) : Bool) with
      | true => rfl
      | false => (rw [hq] at h_; exact h_.elim)
    rw [hN, cond_true] at h_
    simp only [Bool.and_eq_true, beq_iff, decide_eq_true_eq] at hN
    obtain ⟨⟨⟨⟨⟨⟨⟨rfl, rfl⟩, rfl⟩, rfl⟩, rfl⟩, rfl⟩, rfl⟩, rfl⟩ := hN
    obtain ⟨q0, h_⟩ := h_
    obtain rfl : m4 = (Ll.len a) := q0
    obtain ⟨q0, h_⟩ := h_
    obtain rfl : m6 = (Ll.len b) := q0
    obtain ⟨q1, h_⟩ := h_
    have q1 : i_0 = (0 : Int) := q1
    obtain ⟨q2, h_⟩ := h_
    have q2 : (Ll.len a) = (Ll.len b) := q2
    obtain ⟨q3, h_⟩ := h_
    have q3 : (Ll.len a) ≤ (1000000 : Int) := q3
    replace h_ : cond (decide (diffI a b < a.length)) (K_ .ret (hdL (bodyAt Try.prog 20 [false, true, false, true, true]) T_ (kills [] M_) 31 4 [(2, .p 2 0), (3, .p 3 0)] [(0, .list 0 [.int .i64, .int .i64, .int .i64, .int .i64, .int .i64, .int .i64, .int .i64, .int .i64, .int .i64] false a), (1, .list 0 [.int .i64, .int .i64, .int .i64, .int .i64, .int .i64, .int .i64, .int .i64, .int .i64, .int .i64] false b), (2, .row 24 [.ls false 0 (Ll.len a)]), (3, .row 24 [.ls false 1 (Ll.len b)])] [(4, .b false)] [] [] [] (addW ([] ++ []) wr_))) (K_ (.exit 0) (hdL (bodyAt Try.prog 20 [false, true, false, true, true]) T_ (kills [] M_) 31 4 [(2, .p 2 0), (3, .p 3 0)] [(0, .list 0 [.int .i64, .int .i64, .int .i64, .int .i64, .int .i64, .int .i64, .int .i64, .int .i64, .int .i64] false a), (1, .list 0 [.int .i64, .int .i64, .int .i64, .int .i64, .int .i64, .int .i64, .int .i64, .int .i64, .int .i64] false b), (2, .row 24 [.ls false 0 (Ll.len a)]), (3, .row 24 [.ls false 1 (Ll.len b)])] [(5, .i .i64 (Ll.len a))] [] [] [] (addW ([] ++ []) wr_))) := h_
    have hx1 : (decide (diffI a b < a.length)) = true → K_ .ret (hdL (bodyAt Try.prog 20 [false, true, false, true, true]) T_ (kills [] M_) 31 4 [(2, .p 2 0), (3, .p 3 0)] [(0, .list 0 [.int .i64, .int .i64, .int .i64, .int .i64, .int .i64, .int .i64, .int .i64, .int .i64, .int .i64] false a), (1, .list 0 [.int .i64, .int .i64, .int .i64, .int .i64, .int .i64, .int .i64, .int .i64, .int .i64, .int .i64] false b), (2, .row 24 [.ls false 0 (Ll.len a)]), (3, .row 24 [.ls false 1 (Ll.len b)])] [(4, .b false)] [] [] [] (addW ([] ++ []) wr_)) := fun e1 => by
      have h2 := h_
      rw [e1] at h2; simp only [cond_true, cond_false] at h2; exact h2
    have hx2 : (decide (diffI a b < a.length)) = false → K_ (.exit 0) (hdL (bodyAt Try.prog 20 [false, true, false, true, true]) T_ (kills [] M_) 31 4 [(2, .p 2 0), (3, .p 3 0)] [(0, .list 0 [.int .i64, .int .i64, .int .i64, .int .i64, .int .i64, .int .i64, .int .i64, .int .i64, .int .i64] false a), (1, .list 0 [.int .i64, .int .i64, .int .i64, .int .i64, .int .i64, .int .i64, .int .i64, .int .i64, .int .i64] false b), (2, .row 24 [.ls false 0 (Ll.len a)]), (3, .row 24 [.ls false 1 (Ll.len b)])] [(5, .i .i64 (Ll.len a))] [] [] [] (addW ([] ++ []) wr_)) := fun e1 => by
      have h2 := h_
      rw [e1] at h2; simp only [cond_true, cond_false] at h2; exact h2
    refine loop_ruleL (fs := fsu) (ov := true) (s := ⟨T_, 31, M_, 4, wr_⟩) (X := Int) (B := []) (mv := []) (kt := [(2, .p 2 0), (3, .p 3 0)]) (kr := [(0, .list 0 [.int .i64, .int .i64, .int .i64, .int .i64, .int .i64, .int .i64, .int .i64, .int .i64, .int .i64] false a), (1, .list 0 [.int .i64, .int .i64, .int .i64, .int .i64, .int .i64, .int .i64, .int .i64, .int .i64, .int .i64] false b), (2, .row 24 [.ls false 0 (Ll.len a)]), (3, .row 24 [.ls false 1 (Ll.len b)])]) (ty := []) (x := (i_0))
      (Inv := (fun x : Int => match x with | (i) => 0 ≤ i ∧ i ≤ diffI a b)) (μ := (fun x : Int => match x with | (i) => (2000000 - i).toNat)) (ts := tsOf [5] [4]) (sl := (fun x : Int => match x with | (i) => [.i .i64 i])) (bl := (fun x : Int => match x with | (i) => [])) (ll := (fun x : Int => match x with | (i) => [])) (Q := fun e_ vs_ os_ hs_ => K_ e_ (hdL (bodyAt Try.prog 20 [false, true, false, true, true]) T_ (kills [] M_) 31 4 [(2, .p 2 0), (3, .p 3 0)] [(0, .list 0 [.int .i64, .int .i64, .int .i64, .int .i64, .int .i64, .int .i64, .int .i64, .int .i64, .int .i64] false a), (1, .list 0 [.int .i64, .int .i64, .int .i64, .int .i64, .int .i64, .int .i64, .int .i64, .int .i64, .int .i64] false b), (2, .row 24 [.ls false 0 (Ll.len a)]), (3, .row 24 [.ls false 1 (Ll.len b)])] (((tsOf [5] [4]) e_).zip vs_) ([].zip os_) [] hs_ (addW ([] ++ []) wr_)))
      (L := LL) (U := 30) (cs := sCall Try.prog 30 (spOf sp0) noLoop 20) (call := CN Try.prog AW m_) (lp := noLoop 20) (root := c0_) (p := [false, true, false, true, true])
      (show CallSOK _ _ from by
        have := sCall_ok (P := Try.prog) (d := m_ - 20) (U := 30) (lp := noLoop) (sp0_ok (fs := fsu) (ov := true) (d := m_ - 20)) (sp0_aw (fs := fsu) (ov := true)) (noLoop_ok) (by decide) 20
        rwa [show 20 + (m_ - 20) = m_ by omega] at this) (fun p f h => by cases h) (by decide) hc_
      (fun x o ho => by cases ho)
      (fun x hx => by cases hx) (fun x hx => by cases hx) (fun x hx => by cases hx)
      (fun x hx => by
        simp only [List.mem_cons, List.not_mem_nil, or_false] at hx
        rcases hx with rfl | rfl
        · exact g0
        · exact g1) (fun x hx => by
        simp only [List.mem_cons, List.not_mem_nil, or_false] at hx
        rcases hx with rfl | rfl | rfl | rfl
        · exact ⟨g2, by simp⟩
        · exact ⟨g3, by simp⟩
        · exact ⟨g4, by simp⟩
        · exact ⟨g5, by simp⟩) ?_ (fun _ _ _ _ _ h => h) ?_ ?_ ?_ hs_
    · rintro i hI
      exact sm_go a b i i_0 q1 T_ (kills [] M_) _ q2 q3 hI (fun i' ha hb => ⟨(i'), ha, hb, rfl, rfl, rfl⟩) (fun e1 => ⟨by simp [SO.mine], hx1 e1⟩) (fun e1 => ⟨by simp [SO.mine], hx2 e1⟩)
    · show 0 ≤ i_0 ∧ i_0 ≤ diffI a b
      exact ⟨by omega, by rw [q1]; exact (leastN_spec (fun j => !rowEq a b j) a.length 0).1⟩
    · show (2000000 - i_0).toNat < LL
      exact Nat.lt_of_le_of_lt (show _ ≤ 2000000 by omega) (by decide)
    · exact ⟨⟨[.i .i64 i_0], [], [], [], by simp [gets, tsOf, g0, g1, g2, g3, g4, g5, g6], by simp [gets, g0, g1, g2, g3, g4, g5, g6], rfl, rfl, by simp [listsOf] <;> rfl⟩⟩
  · exact h_.elim
abbrev lpSm {A : Go.Rx.Alg} : Nat → Go.Rx.LoopS A := Go.Rx.lpOf [(20, [false, true, false, true, true], smF)]
theorem lpSm_ok {d : Nat} (hd : 100 ≤ d) : LoopsAll (fs := fsu) (ov := true) Try.prog AW d lpSm := lpOf_ok fun x hx => by
  simp only [List.mem_cons, List.not_mem_nil, or_false] at hx
  rcases hx with rfl
  · exact smF_ok (by omega)
theorem same_eq (a b : Ll) (KK : KS (stdA fsu true)) : sFunc Try.prog 30 (sCall Try.prog 30 (spOf sp0) lpSm 20) lpSm 20 [.agg [.ls false 0 (Ll.len a)], .agg [.ls false 1 (Ll.len b)]] (lsMem 0 [([.int .i64, .int .i64, .int .i64, .int .i64, .int .i64, .int .i64, .int .i64, .int .i64, .int .i64], a), ([.int .i64, .int .i64, .int .i64, .int .i64, .int .i64, .int .i64, .int .i64, .int .i64, .int .i64], b)]) 2 KK =
  (cond (decide ((Ll.len a) ≠ (Ll.len b)))
 (KK (.b false) (lsMem 0 [([.int .i64, .int .i64, .int .i64, .int .i64, .int .i64, .int .i64, .int .i64, .int .i64, .int .i64], a), ([.int .i64, .int .i64, .int .i64, .int .i64, .int .i64, .int .i64, .int .i64, .int .i64, .int .i64], b)]) 2 [])
 ((Ll.len a) = (Ll.len a) ∧ ((Ll.len b) = (Ll.len b) ∧ ((0 : Int) = (0 : Int) ∧ ((Ll.len a) = (Ll.len b) ∧ ((Ll.len a) ≤ (1000000 : Int) ∧ (cond (decide (diffI a b < a.length))
 (KK (.b false) (lsMem 0 [([.int .i64, .int .i64, .int .i64, .int .i64, .int .i64, .int .i64, .int .i64, .int .i64, .int .i64], a), ([.int .i64, .int .i64, .int .i64, .int .i64, .int .i64, .int .i64, .int .i64, .int .i64, .int .i64], b)]) 2 [])
 (KK (.b true) (lsMem 0 [([.int .i64, .int .i64, .int .i64, .int .i64, .int .i64, .int .i64, .int .i64, .int .i64, .int .i64], a), ([.int .i64, .int .i64, .int .i64, .int .i64, .int .i64, .int .i64, .int .i64, .int .i64, .int .i64], b)]) 2 [])))))))) := by kernel_rfl
theorem same_pure {m : Nat} (hm : 200 ≤ m) {H : Hp} {nx : Nat} {v_a : LV} {a : Ll} (hl_a : IsL H nx [.int .i64, .int .i64, .int .i64, .int .i64, .int .i64, .int .i64, .int .i64, .int .i64, .int .i64] a v_a) {v_b : LV} {b : Ll} (hl_b : IsL H nx [.int .i64, .int .i64, .int .i64, .int .i64, .int .i64, .int .i64, .int .i64, .int .i64, .int .i64] b v_b) (p1 : (Ll.len a) ≤ (1000000 : Int)) : Pure Try.prog AW m 20 [.agg [v_a], .agg [v_b]] H nx (.b (sameB a b)) := by
  obtain ⟨ν, n1, n2, n3, n4⟩ := ls_in (fs := fsu) (ov := true) (l := [([.int .i64, .int .i64, .int .i64, .int .i64, .int .i64, .int .i64, .int .i64, .int .i64, .int .i64], a), ([.int .i64, .int .i64, .int .i64, .int .i64, .int .i64, .int .i64, .int .i64, .int .i64, .int .i64], b)]) (lvs := [v_a, v_b]) 0 (fun i x lv e1 e2 => by
    cases i with
    | zero => simp at e1 e2; subst e1 e2; exact hl_a
    | succ i =>
      cases i with
      | zero => simp at e1 e2; subst e1 e2; exact hl_b
      | succ i =>
        simp at e1) rfl
  refine pure_of (n := 20) (d := m - 21) (U := 30) (fs := fsu) (ov := true) sp0_ok sp0_aw (lpSm_ok (by omega)) (by decide) (by decide) (by omega) (args := [.agg [.ls false 0 (Ll.len a)], .agg [.ls false 1 (Ll.len b)]]) (M := lsMem 0 [([.int .i64, .int .i64, .int .i64, .int .i64, .int .i64, .int .i64, .int .i64, .int .i64, .int .i64], a), ([.int .i64, .int .i64, .int .i64, .int .i64, .int .i64, .int .i64, .int .i64, .int .i64, .int .i64], b)]) (snx := 2) ?_ (VSL.cons ⟨_, rfl, (VSL.cons (n4 0 _ _ rfl rfl) rfl)⟩ (VSL.cons ⟨_, rfl, (VSL.cons (n4 1 _ _ rfl rfl) rfl)⟩ rfl)) (hs_in n2 n3)
  rw [same_eq]
  have hl : Ll.len a = (a.length : Int) := rfl
  have hl2 : Ll.len b = (b.length : Int) := rfl
  have c0 : sameB a b = decide (a.length = b.length ∧ ¬ diffI a b < a.length) := rfl
  simp only [cond_iff]
  refine ⟨fun h => end_b ?_, fun h => ?_⟩
  · rw [c0, decide_eq_false (by omega)]
  · have e1 : diffI a b < a.length → doneK (fs := fsu) (ov := true) (.b (sameB a b)) 2 (.b false) (lsMem 0 [([.int .i64, .int .i64, .int .i64, .int .i64, .int .i64, .int .i64, .int .i64, .int .i64, .int .i64], a), ([.int .i64, .int .i64, .int .i64, .int .i64, .int .i64, .int .i64, .int .i64, .int .i64, .int .i64], b)]) 2 [] := fun h3 => end_b (by rw [c0, decide_eq_false (by omega)])
    have e2 : ¬ diffI a b < a.length → doneK (fs := fsu) (ov := true) (.b (sameB a b)) 2 (.b true) (lsMem 0 [([.int .i64, .int .i64, .int .i64, .int .i64, .int .i64, .int .i64, .int .i64, .int .i64, .int .i64], a), ([.int .i64, .int .i64, .int .i64, .int .i64, .int .i64, .int .i64, .int .i64, .int .i64, .int .i64], b)]) 2 [] := fun h3 => end_b (by rw [c0, decide_eq_true (by omega)])
    exact ⟨by trivial, by trivial, by trivial, by omega, p1, e1, e2⟩
abbrev sameS {A : Go.Rx.Alg} : List (Go.Rx.SV A) → Go.Rx.SH A → Nat → Go.Rx.KS A → A.R := fun args_ M_ snx_ K_ => match args_ with
  | [.agg [x_a], .agg [x_b]] => (match Go.Rx.lsArg M_ [.int .i64, .int .i64, .int .i64, .int .i64, .int .i64, .int .i64, .int .i64, .int .i64, .int .i64] x_a with | some (a, n_a) => (A.need .eql n_a (A.len a) (match Go.Rx.lsArg M_ [.int .i64, .int .i64, .int .i64, .int .i64, .int .i64, .int .i64, .int .i64, .int .i64, .int .i64] x_b with | some (b, n_b) => (A.need .eql n_b (A.len b) (A.need .leq (A.len a) (A.lit 1000000) (K_ (.b (A.appB 36 [a, b] [])) M_ snx_ []))) | none => A.fail "same")) | none => A.fail "same")
  | _ => A.fail "same"
theorem sameS_ok {ov : Bool} {d : Nat} (hd : 200 ≤ d) : SpecOK (fs := fsu) (ov := ov) Try.prog AW d 20 sameS := by
  intro m_ hm_ args_ M_ snx_ K_ h_ ν_ largs_ H_ nx_ ha_ hM_
  unfold sameS at h_
  split at h_
  · rename_i x_a x_b
    obtain ⟨y1, r1, rfl, ⟨l1, rfl, ⟨v_a, r2, rfl, hx_a, rfl⟩⟩, ⟨y3, r3, rfl, ⟨l3, rfl, ⟨v_b, r4, rfl, hx_b, rfl⟩⟩, rfl⟩⟩ := ha_
    split at h_
    · rename_i a n_a q_a
      obtain ⟨e_a, h_⟩ := h_
      split at h_
      · rename_i b n_b q_b
        obtain ⟨e_b, h_⟩ := h_
        obtain ⟨p1, h_⟩ := h_
        exact pure_got (same_pure (by omega) (lsArg_ok hM_ hx_a q_a e_a) (lsArg_ok hM_ hx_b q_b e_b) p1) hM_ (v := .b _) rfl h_
      · exact h_.elim
    · exact h_.elim
  · exact h_.elim
theorem sl_eq (i : Int) (a b : Ll) (T : Al (SV (stdA fsu true))) (M : Al (SO (stdA fsu true))) (KK : Ex → List (SV (stdA fsu true)) → List (SO (stdA fsu true)) → List Ll → Prop) : sCode Try.prog (sCall Try.prog 30 (spOf sp0) noLoop 20) (noLoop 15) 30 (false :: [false, true, false, true]) (bodyAt Try.prog 15 [false, true, false, true]) (hdL (bodyAt Try.prog 15 [false, true, false, true]) T M 32 2 [(0, .ls false 0 (Ll.len a)), (1, .ls false 1 (Ll.len b))] [(0, .list 0 [.int .i64] false a), (1, .list 0 [.int .i64] false b)] [(5, .i .i64 i)] [] [] [] []) (outL 2 (tsOf [5] [4]) [] [] [] KK) =
  (cond (decide (i < (Ll.len a)))
 (cond (decide (i < (Ll.len b)))
 ((0 : Int) ≤ i ∧ (i < (Ll.len a) ∧ (i < (Ll.len a) ∧ ((0 : Int) ≤ i ∧ (i < (Ll.len b) ∧ (i < (Ll.len b) ∧ (cond (decide ((Ll.get a i 0) ≠ (Ll.get b i 0)))
 (KK .ret [(.b false)] [] [])
 (InK .i64 (i + (1 : Int)) ∧ (KK .normal [(.i .i64 (i + (1 : Int)))] [] [])))))))))
 (KK (.exit 0) [(.i .i64 i)] [] []))
 (KK (.exit 0) [(.i .i64 i)] [] [])) := by kernel_rfl
theorem sl_go (a : Ll) (b : Ll) (i : Int) (i_0 : Int) (r1 : i_0 = (0 : Int)) (T : Al (SV (stdA fsu true))) (M : Al (SO (stdA fsu true))) (KK : Ex → List (SV (stdA fsu true)) → List (SO (stdA fsu true)) → List Ll → Prop) (p1 : (Ll.len a) ≤ (1000000 : Int)) (hI : 0 ≤ i ∧ i ≤ diffL a b) (hn : ∀ (i' : Int), 0 ≤ i' ∧ i' ≤ diffL a b → (2000000 - i').toNat < (2000000 - i).toNat → KK .normal [.i .i64 i'] [] []) (hx1 : (decide (diffL a b < (min a.length b.length : Nat))) = true → KK .ret [.b false] [] []) (hx2 : (decide (diffL a b < (min a.length b.length : Nat))) = false → KK (.exit 0) [.i .i64 ((min a.length b.length : Nat))] [] []) :
    sCode Try.prog (sCall Try.prog 30 (spOf sp0) noLoop 20) (noLoop 15) 30 (false :: [false, true, false, true]) (bodyAt Try.prog 15 [false, true, false, true]) (hdL (bodyAt Try.prog 15 [false, true, false, true]) T M 32 2 [(0, .ls false 0 (Ll.len a)), (1, .ls false 1 (Ll.len b))] [(0, .list 0 [.int .i64] false a), (1, .list 0 [.int .i64] false b)] [(5, .i .i64 i)] [] [] [] []) (outL 2 (tsOf [5] [4]) [] [] [] KK) := by
  refine Eq.mpr (sl_eq i a b T M KK) ?_
  have hl : Ll.len a = (a.length : Int) := rfl
  have hl2 : Ll.len b = (b.length : Int) := rfl
  obtain ⟨i0, i1⟩ := hI
  have hm : ((min a.length b.length : Nat) : Int) ≤ a.length ∧ ((min a.length b.length : Nat) : Int) ≤ b.length ∧ (((min a.length b.length : Nat) : Int) = a.length ∨ ((min a.length b.length : Nat) : Int) = b.length) := by omega
  by_cases h : i < ((min a.length b.length : Nat) : Int)
  · rw [decide_eq_true (show i < Ll.len a by omega), decide_eq_true (show i < Ll.len b by omega)]
    have hs := leastN_step (p := fun j => !decide (Ll.get a j 0 = Ll.get b j 0)) (k := min a.length b.length) i0 i1 h
    have e : decide (Ll.get a i 0 ≠ Ll.get b i 0) = !decide (Ll.get a i 0 = Ll.get b i 0) := by by_cases hq : Ll.get a i 0 = Ll.get b i 0 <;> simp [hq]
    rw [e]
    refine ⟨i0, by omega, by omega, i0, by omega, by omega, ?_⟩
    cases hb : decide (Ll.get a i 0 = Ll.get b i 0) with
    | false => exact hx1 (decide_eq_true (by have : diffL a b = i := hs.1 (by show (!decide (Ll.get a i 0 = Ll.get b i 0)) = true; rw [hb]; rfl); omega))
    | true => exact ⟨by rw [InK64]; omega, hn (i + 1) ⟨by omega, hs.2 (by show (!decide (Ll.get a i 0 = Ll.get b i 0)) = false; rw [hb]; rfl)⟩ (by omega)⟩
  · obtain ⟨_, a2, _, _⟩ := leastN_spec (fun j => !decide (Ll.get a j 0 = Ll.get b j 0)) (min a.length b.length) 0
    have a3 : diffL a b ≤ (min a.length b.length : Nat) := by unfold diffL; omega
    obtain rfl : i = ((min a.length b.length : Nat) : Int) := by omega
    have fin := hx2 (decide_eq_false (by omega))
    rcases hm.2.2 with hm2 | hm2
    · rw [decide_eq_false (show ¬ ((min a.length b.length : Nat) : Int) < Ll.len a by omega)]
      exact fin
    · rw [decide_eq_false (show ¬ ((min a.length b.length : Nat) : Int) < Ll.len b by omega)]
      cases decide (((min a.length b.length : Nat) : Int) < Ll.len a) <;> exact fin
abbrev slF {A : Go.Rx.Alg} : Code → Go.Rx.SS A → (Go.Rx.Ex → Go.Rx.SS A → A.R) → A.R := fun c_ s_ K_ => match s_.T.get 0, s_.T.get 1, s_.H.get 0, s_.H.get 1, s_.T.get 5 with
  | some (.ls false 0 m1), some (.ls false 1 m2), some (.list t3 k3 false a), some (.list t4 k4 false b), some (.i .i64 i) => bif (((((Nat.beq s_.N 32 && Nat.beq s_.nx 2) && Nat.beq t3 0) && decide (k3 = [.int .i64])) && Nat.beq t4 0) && decide (k4 = [.int .i64])) then (A.need .eql m1 (A.len a) (A.need .eql m2 (A.len b) (A.need .eql i (A.lit 0) (A.need .leq (A.len a) (A.lit 1000000) ((A.br (A.appB 39 [a, b] []) (fun _ => K_ .ret (Go.Rx.hdL c_ s_.T (Go.Rx.kills [] s_.H) 32 2 [(0, .ls false 0 (A.len a)), (1, .ls false 1 (A.len b))] [(0, .list 0 [.int .i64] false a), (1, .list 0 [.int .i64] false b)] [(4, .b (A.ofB false))] [] [] [] (Go.Rx.addW ([] ++ []) s_.wr))) (fun _ => K_ (.exit 0) (Go.Rx.hdL c_ s_.T (Go.Rx.kills [] s_.H) 32 2 [(0, .ls false 0 (A.len a)), (1, .ls false 1 (A.len b))] [(0, .list 0 [.int .i64] false a), (1, .list 0 [.int .i64] false b)] [(5, .i .i64 (A.app 11 [a, b] []))] [] [] [] (Go.Rx.addW ([] ++ []) s_.wr))))))))) else A.fail "frame of sl"
  | _, _, _, _, _ => A.fail "sl"
theorem slF_ok {d : Nat} (hd : 100 ≤ d) : LoopOK (fs := fsu) (ov := true) Try.prog AW d 15 [false, true, false, true] slF := by
  intro m_ hm_ fn_ c0_ hfn_ hb_ c_ ro_ hc_ s_ K_ W_ ν_ S_ h_ hs_
  obtain rfl := body_of hfn_ hb_ hc_
  simp only [slF] at h_
  split at h_
  · rename_i m1_0 m2_0 t3 k3 a_0 t4 k4 b_0 i_0_0 g0 g1 g2 g3 g4
    obtain ⟨m1, rfl⟩ : ∃ q : Int, q = m1_0 := ⟨m1_0, rfl⟩
    obtain ⟨m2, rfl⟩ : ∃ q : Int, q = m2_0 := ⟨m2_0, rfl⟩
    obtain ⟨a, rfl⟩ : ∃ q : Ll, q = a_0 := ⟨a_0, rfl⟩
    obtain ⟨b, rfl⟩ : ∃ q : Ll, q = b_0 := ⟨b_0, rfl⟩
    obtain ⟨i_0, rfl⟩ : ∃ q : Int, q = i_0_0 := ⟨i_0_0, rfl⟩
    obtain ⟨T_, FN_, M_, snx_, wr_⟩ := s_
    have hN : (((((Nat.beq FN_ 32 && Nat.beq snx_ 2) && Nat.beq t3 0) && decide (k3 = [.int .i64])) && Nat.beq t4 0) && decide (k4 = [.int .i64])) = true := by
      cases hq : ((((((Nat.beq FN_ 32 && Nat.beq snx_ 2) && Nat.beq t3 0) && decide (k3 = [.int .i64])) && Nat.beq t4 0) && decide (k4 = [.int .i64])) : Bool) with
      | true => rfl
      | false => (rw [hq] at h_; exact h_.elim)
    rw [hN, cond_true] at h_
    simp only [Bool.and_eq_true, beq_iff, decide_eq_true_eq] at hN
    obtain ⟨⟨⟨⟨⟨rfl, rfl⟩, rfl⟩, rfl⟩, rfl⟩, rfl⟩ := hN
    obtain ⟨q0, h_⟩ := h_
    obtain rfl : m1 = (Ll.len a) := q0
    obtain ⟨q0, h_⟩ := h_
    obtain rfl : m2 = (Ll.len b) := q0
    obtain ⟨q1, h_⟩ := h_
    have q1 : i_0 = (0 : Int) := q1
    obtain ⟨q2, h_⟩ := h_
    have q2 : (Ll.len a) ≤ (1000000 : Int) := q2
    replace h_ : cond (decide (diffL a b < (min a.length b.length : Nat))) (K_ .ret (hdL (bodyAt Try.prog 15 [false, true, false, true]) T_ (kills [] M_) 32 2 [(0, .ls false 0 (Ll.len a)), (1, .ls false 1 (Ll.len b))] [(0, .list 0 [.int .i64] false a), (1, .list 0 [.int .i64] false b)] [(4, .b false)] [] [] [] (addW ([] ++ []) wr_))) (K_ (.exit 0) (hdL (bodyAt Try.prog 15 [false, true, false, true]) T_ (kills [] M_) 32 2 [(0, .ls false 0 (Ll.len a)), (1, .ls false 1 (Ll.len b))] [(0, .list 0 [.int .i64] false a), (1, .list 0 [.int .i64] false b)] [(5, .i .i64 ((min a.length b.length : Nat)))] [] [] [] (addW ([] ++ []) wr_))) := h_
    have hx1 : (decide (diffL a b < (min a.length b.length : Nat))) = true → K_ .ret (hdL (bodyAt Try.prog 15 [false, true, false, true]) T_ (kills [] M_) 32 2 [(0, .ls false 0 (Ll.len a)), (1, .ls false 1 (Ll.len b))] [(0, .list 0 [.int .i64] false a), (1, .list 0 [.int .i64] false b)] [(4, .b false)] [] [] [] (addW ([] ++ []) wr_)) := fun e1 => by
      have h2 := h_
      rw [e1] at h2; simp only [cond_true, cond_false] at h2; exact h2
    have hx2 : (decide (diffL a b < (min a.length b.length : Nat))) = false → K_ (.exit 0) (hdL (bodyAt Try.prog 15 [false, true, false, true]) T_ (kills [] M_) 32 2 [(0, .ls false 0 (Ll.len a)), (1, .ls false 1 (Ll.len b))] [(0, .list 0 [.int .i64] false a), (1, .list 0 [.int .i64] false b)] [(5, .i .i64 ((min a.length b.length : Nat)))] [] [] [] (addW ([] ++ []) wr_)) := fun e1 => by
      have h2 := h_
      rw [e1] at h2; simp only [cond_true, cond_false] at h2; exact h2
    refine loop_ruleL (fs := fsu) (ov := true) (s := ⟨T_, 32, M_, 2, wr_⟩) (X := Int) (B := []) (mv := []) (kt := [(0, .ls false 0 (Ll.len a)), (1, .ls false 1 (Ll.len b))]) (kr := [(0, .list 0 [.int .i64] false a), (1, .list 0 [.int .i64] false b)]) (ty := []) (x := (i_0))
      (Inv := (fun x : Int => match x with | (i) => 0 ≤ i ∧ i ≤ diffL a b)) (μ := (fun x : Int => match x with | (i) => (2000000 - i).toNat)) (ts := tsOf [5] [4]) (sl := (fun x : Int => match x with | (i) => [.i .i64 i])) (bl := (fun x : Int => match x with | (i) => [])) (ll := (fun x : Int => match x with | (i) => [])) (Q := fun e_ vs_ os_ hs_ => K_ e_ (hdL (bodyAt Try.prog 15 [false, true, false, true]) T_ (kills [] M_) 32 2 [(0, .ls false 0 (Ll.len a)), (1, .ls false 1 (Ll.len b))] [(0, .list 0 [.int .i64] false a), (1, .list 0 [.int .i64] false b)] (((tsOf [5] [4]) e_).zip vs_) ([].zip os_) [] hs_ (addW ([] ++ []) wr_)))
      (L := LL) (U := 30) (cs := sCall Try.prog 30 (spOf sp0) noLoop 20) (call := CN Try.prog AW m_) (lp := noLoop 15) (root := c0_) (p := [false, true, false, true])
      (show CallSOK _ _ from by
        have := sCall_ok (P := Try.prog) (d := m_ - 20) (U := 30) (lp := noLoop) (sp0_ok (fs := fsu) (ov := true) (d := m_ - 20)) (sp0_aw (fs := fsu) (ov := true)) (noLoop_ok) (by decide) 20
        rwa [show 20 + (m_ - 20) = m_ by omega] at this) (fun p f h => by cases h) (by decide) hc_
      (fun x o ho => by cases ho)
      (fun x hx => by cases hx) (fun x hx => by cases hx) (fun x hx => by cases hx)
      (fun x hx => by
        simp only [List.mem_cons, List.not_mem_nil, or_false] at hx
        rcases hx with rfl | rfl
        · exact g0
        · exact g1) (fun x hx => by
        simp only [List.mem_cons, List.not_mem_nil, or_false] at hx
        rcases hx with rfl | rfl
        · exact ⟨g2, by simp⟩
        · exact ⟨g3, by simp⟩) ?_ (fun _ _ _ _ _ h => h) ?_ ?_ ?_ hs_
    · rintro i hI
      exact sl_go a b i i_0 q1 T_ (kills [] M_) _ q2 hI (fun i' ha hb => ⟨(i'), ha, hb, rfl, rfl, rfl⟩) (fun e1 => ⟨by simp [SO.mine], hx1 e1⟩) (fun e1 => ⟨by simp [SO.mine], hx2 e1⟩)
    · show 0 ≤ i_0 ∧ i_0 ≤ diffL a b
      exact ⟨by omega, by rw [q1]; exact (leastN_spec (fun j => !decide (Ll.get a j 0 = Ll.get b j 0)) (min a.length b.length) 0).1⟩
    · show (2000000 - i_0).toNat < LL
      exact Nat.lt_of_le_of_lt (show _ ≤ 2000000 by omega) (by decide)
    · exact ⟨⟨[.i .i64 i_0], [], [], [], by simp [gets, tsOf, g0, g1, g2, g3, g4], by simp [gets, g0, g1, g2, g3, g4], rfl, rfl, by simp [listsOf] <;> rfl⟩⟩
  · exact h_.elim
abbrev lpSl {A : Go.Rx.Alg} : Nat → Go.Rx.LoopS A := Go.Rx.lpOf [(15, [false, true, false, true], slF)]
theorem lpSl_ok {d : Nat} (hd : 100 ≤ d) : LoopsAll (fs := fsu) (ov := true) Try.prog AW d lpSl := lpOf_ok fun x hx => by
  simp only [List.mem_cons, List.not_mem_nil, or_false] at hx
  rcases hx with rfl
  · exact slF_ok (by omega)
theorem samel_eq (a b : Ll) (KK : KS (stdA fsu true)) : sFunc Try.prog 30 (sCall Try.prog 30 (spOf sp0) lpSl 20) lpSl 15 [.ls false 0 (Ll.len a), .ls false 1 (Ll.len b)] (lsMem 0 [([.int .i64], a), ([.int .i64], b)]) 2 KK =
  ((Ll.len a) = (Ll.len a) ∧ ((Ll.len b) = (Ll.len b) ∧ ((0 : Int) = (0 : Int) ∧ ((Ll.len a) ≤ (1000000 : Int) ∧ (cond (decide (diffL a b < (min a.length b.length : Nat)))
 (KK (.b false) (lsMem 0 [([.int .i64], a), ([.int .i64], b)]) 2 [])
 (KK (.b (decide ((Ll.len a) = (Ll.len b)))) (lsMem 0 [([.int .i64], a), ([.int .i64], b)]) 2 [])))))) := by kernel_rfl
theorem samel_pure {m : Nat} (hm : 200 ≤ m) {H : Hp} {nx : Nat} {v_a : LV} {a : Ll} (hl_a : IsL H nx [.int .i64] a v_a) {v_b : LV} {b : Ll} (hl_b : IsL H nx [.int .i64] b v_b) (p1 : (Ll.len a) ≤ (1000000 : Int)) : Pure Try.prog AW m 15 [v_a, v_b] H nx (.b (sameLB a b)) := by
  obtain ⟨ν, n1, n2, n3, n4⟩ := ls_in (fs := fsu) (ov := true) (l := [([.int .i64], a), ([.int .i64], b)]) (lvs := [v_a, v_b]) 0 (fun i x lv e1 e2 => by
    cases i with
    | zero => simp at e1 e2; subst e1 e2; exact hl_a
    | succ i =>
      cases i with
      | zero => simp at e1 e2; subst e1 e2; exact hl_b
      | succ i =>
        simp at e1) rfl
  refine pure_of (n := 20) (d := m - 21) (U := 30) (fs := fsu) (ov := true) sp0_ok sp0_aw (lpSl_ok (by omega)) (by decide) (by decide) (by omega) (args := [.ls false 0 (Ll.len a), .ls false 1 (Ll.len b)]) (M := lsMem 0 [([.int .i64], a), ([.int .i64], b)]) (snx := 2) ?_ (VSL.cons (n4 0 _ _ rfl rfl) (VSL.cons (n4 1 _ _ rfl rfl) rfl)) (hs_in n2 n3)
  rw [samel_eq]
  have hl : Ll.len a = (a.length : Int) := rfl
  have hl2 : Ll.len b = (b.length : Int) := rfl
  have c0 : sameLB a b = decide (a.length = b.length ∧ ¬ diffL a b < min a.length b.length) := rfl
  simp only [cond_iff]
  refine ⟨by trivial, by trivial, by trivial, p1, fun h => end_b ?_, fun h => end_b ?_⟩
  · rw [c0, decide_eq_false (by omega)]
  · rw [c0]
    by_cases hq : a.length = b.length
    · rw [decide_eq_true (show Ll.len a = Ll.len b by omega), decide_eq_true (by omega)]
    · rw [decide_eq_false (show ¬ Ll.len a = Ll.len b by omega), decide_eq_false (by omega)]
abbrev samelS {A : Go.Rx.Alg} : List (Go.Rx.SV A) → Go.Rx.SH A → Nat → Go.Rx.KS A → A.R := fun args_ M_ snx_ K_ => match args_ with
  | [x_a, x_b] => (match Go.Rx.lsArg M_ [.int .i64] x_a with | some (a, n_a) => (A.need .eql n_a (A.len a) (match Go.Rx.lsArg M_ [.int .i64] x_b with | some (b, n_b) => (A.need .eql n_b (A.len b) (A.need .leq (A.len a) (A.lit 1000000) (K_ (.b (A.appB 37 [a, b] [])) M_ snx_ []))) | none => A.fail "samel")) | none => A.fail "samel")
  | _ => A.fail "samel"
theorem samelS_ok {ov : Bool} {d : Nat} (hd : 200 ≤ d) : SpecOK (fs := fsu) (ov := ov) Try.prog AW d 15 samelS := by
  intro m_ hm_ args_ M_ snx_ K_ h_ ν_ largs_ H_ nx_ ha_ hM_
  unfold samelS at h_
  split at h_
  · rename_i x_a x_b
    obtain ⟨v_a, r1, rfl, hx_a, ⟨v_b, r2, rfl, hx_b, rfl⟩⟩ := ha_
    split at h_
    · rename_i a n_a q_a
      obtain ⟨e_a, h_⟩ := h_
      split at h_
      · rename_i b n_b q_b
        obtain ⟨e_b, h_⟩ := h_
        obtain ⟨p1, h_⟩ := h_
        exact pure_got (samel_pure (by omega) (lsArg_ok hM_ hx_a q_a e_a) (lsArg_ok hM_ hx_b q_b e_b) p1) hM_ (v := .b _) rfl h_
      · exact h_.elim
    · exact h_.elim
  · exact h_.elim
abbrev spK {A : Go.Rx.Alg} : Go.Rx.SpL A := [(AW, Go.Rx.awakeS), (7, checkS), (8, rcheckS), (9, lengthS), (10, rlengthS), (11, weightS), (12, rweightS), (13, wetS), (14, rwetS), (16, jointsS), (17, rjointsS), (18, nearS), (19, rnearS), (20, sameS), (15, samelS)]
theorem spK_ok {ov : Bool} {d : Nat} (hd : 600 ≤ d) : SpOK (fs := fsu) (ov := ov) Try.prog AW d spK := SpOK.cons awake_ok (SpOK.cons (checkS_ok (by omega)) (SpOK.cons (rcheckS_ok (by omega)) (SpOK.cons (lengthS_ok (by omega)) (SpOK.cons (rlengthS_ok (by omega)) (SpOK.cons (weightS_ok (by omega)) (SpOK.cons (rweightS_ok (by omega)) (SpOK.cons (wetS_ok (by omega)) (SpOK.cons (rwetS_ok (by omega)) (SpOK.cons (jointsS_ok (by omega)) (SpOK.cons (rjointsS_ok (by omega)) (SpOK.cons (nearS_ok (by omega)) (SpOK.cons (rnearS_ok (by omega)) (SpOK.cons (sameS_ok (by omega)) (SpOK.cons (samelS_ok (by omega)) SpOK.nil))))))))))))))
theorem spK_aw {fs : Fs} {ov : Bool} : (spOf (A := stdA fs ov) spK AW).isSome = true := rfl
theorem checks_eq (a b c d e f g h k mud lo hi : Int) (l : Ll) (KK : KS (stdA fsu true)) : sFunc Try.prog 30 (sCall Try.prog 30 (spOf spK) noLoop 20) noLoop 3 [.agg [.ls false 0 (Ll.len l)], .agg [.i .i64 a, .i .i64 b, .i .i64 c, .i .i64 d, .i .i64 e, .i .i64 f, .i .i64 g, .i .i64 h, .i .i64 k], .i .i64 mud, .i .i64 lo, .i .i64 hi] (lsMem 0 [([.int .i64, .int .i64, .int .i64, .int .i64, .int .i64, .int .i64, .int .i64, .int .i64, .int .i64], l)]) 1 KK =
  (cond (decide ((Ll.len l) > (10 : Int)))
 (KK (.b true) (lsMem 0 [([.int .i64, .int .i64, .int .i64, .int .i64, .int .i64, .int .i64, .int .i64, .int .i64, .int .i64], l)]) 1 [])
 ((Ll.len l) = (Ll.len l) ∧ (cond (decide ((Ll.len l) = (0 : Int)))
 ((Ll.len []) = (Ll.len []) ∧ ((Ll.len l) = (Ll.len l) ∧ (cond (decide ((chkI []) ≠ (chkI l)))
 (KK (.b false) (lsMem 0 [([.int .i64, .int .i64, .int .i64, .int .i64, .int .i64, .int .i64, .int .i64, .int .i64, .int .i64], l)]) 1 [])
 ((Ll.len []) = (Ll.len []) ∧ ((Ll.len l) = (Ll.len l) ∧ (cond (decide ((lengthI []) ≠ (lengthI l)))
 (KK (.b false) (lsMem 0 [([.int .i64, .int .i64, .int .i64, .int .i64, .int .i64, .int .i64, .int .i64, .int .i64, .int .i64], l)]) 1 [])
 ((Ll.len []) = (Ll.len []) ∧ ((Ll.len l) = (Ll.len l) ∧ (cond (decide ((weightI [] mud) ≠ (weightI l mud)))
 (KK (.b false) (lsMem 0 [([.int .i64, .int .i64, .int .i64, .int .i64, .int .i64, .int .i64, .int .i64, .int .i64, .int .i64], l)]) 1 [])
 (cond (decide ((wetI c d mud) ≠ (wetI c d mud)))
 (KK (.b false) (lsMem 0 [([.int .i64, .int .i64, .int .i64, .int .i64, .int .i64, .int .i64, .int .i64, .int .i64, .int .i64], l)]) 1 [])
 ((Ll.len []) = (Ll.len []) ∧ ((Ll.len l) = (Ll.len l) ∧ ((Ll.len (jointsL [])) = (Ll.len (jointsL [])) ∧ ((Ll.len (jointsL l)) = (Ll.len (jointsL l)) ∧ ((Ll.len (jointsL [])) ≤ (1000000 : Int) ∧ (cond (sameLB (jointsL []) (jointsL l))
 ((Ll.len []) = (Ll.len []) ∧ ((Ll.len l) = (Ll.len l) ∧ (cond ((nearB (jointsL []) lo hi) == (nearB (jointsL l) lo hi))
 ((Ll.len []) = (Ll.len []) ∧ ((Ll.len l) = (Ll.len l) ∧ ((Ll.len []) ≤ (1000000 : Int) ∧ (cond (sameB [] l)
 (KK (.b true) (lsMem 0 [([.int .i64, .int .i64, .int .i64, .int .i64, .int .i64, .int .i64, .int .i64, .int .i64, .int .i64], l)]) 1 [])
 (KK (.b false) (lsMem 0 [([.int .i64, .int .i64, .int .i64, .int .i64, .int .i64, .int .i64, .int .i64, .int .i64, .int .i64], l)]) 1 [])))))
 (KK (.b false) (lsMem 0 [([.int .i64, .int .i64, .int .i64, .int .i64, .int .i64, .int .i64, .int .i64, .int .i64, .int .i64], l)]) 1 []))))
 (KK (.b false) (lsMem 0 [([.int .i64, .int .i64, .int .i64, .int .i64, .int .i64, .int .i64, .int .i64, .int .i64, .int .i64], l)]) 1 [])))))))))))))))))
 ((Ll.len l) ≤ (1000000 : Int) ∧ ((Ll.len l) = (Ll.len l) ∧ ((Ll.len l) = (Ll.len l) ∧ ((Ll.len l) = (Ll.len l) ∧ (cond (decide ((chkI l) ≠ (chkI l)))
 (KK (.b false) (lsMem 0 [([.int .i64, .int .i64, .int .i64, .int .i64, .int .i64, .int .i64, .int .i64, .int .i64, .int .i64], l)]) 1 [])
 ((Ll.len l) = (Ll.len l) ∧ ((Ll.len l) = (Ll.len l) ∧ (cond (decide ((lengthI l) ≠ (lengthI l)))
 (KK (.b false) (lsMem 0 [([.int .i64, .int .i64, .int .i64, .int .i64, .int .i64, .int .i64, .int .i64, .int .i64, .int .i64], l)]) 1 [])
 ((Ll.len l) = (Ll.len l) ∧ ((Ll.len l) = (Ll.len l) ∧ (cond (decide ((weightI l mud) ≠ (weightI l mud)))
 (KK (.b false) (lsMem 0 [([.int .i64, .int .i64, .int .i64, .int .i64, .int .i64, .int .i64, .int .i64, .int .i64, .int .i64], l)]) 1 [])
 (cond (decide ((wetI c d mud) ≠ (wetI c d mud)))
 (KK (.b false) (lsMem 0 [([.int .i64, .int .i64, .int .i64, .int .i64, .int .i64, .int .i64, .int .i64, .int .i64, .int .i64], l)]) 1 [])
 ((Ll.len l) = (Ll.len l) ∧ ((Ll.len l) = (Ll.len l) ∧ ((Ll.len (jointsL l)) = (Ll.len (jointsL l)) ∧ ((Ll.len (jointsL l)) = (Ll.len (jointsL l)) ∧ ((Ll.len (jointsL l)) ≤ (1000000 : Int) ∧ (cond (sameLB (jointsL l) (jointsL l))
 ((Ll.len l) = (Ll.len l) ∧ ((Ll.len l) = (Ll.len l) ∧ (cond ((nearB (jointsL l) lo hi) == (nearB (jointsL l) lo hi))
 ((Ll.len l) = (Ll.len l) ∧ ((Ll.len l) = (Ll.len l) ∧ ((Ll.len l) ≤ (1000000 : Int) ∧ (cond (sameB l l)
 (KK (.b true) (lsMem 0 [([.int .i64, .int .i64, .int .i64, .int .i64, .int .i64, .int .i64, .int .i64, .int .i64, .int .i64], l)]) 1 [])
 (KK (.b false) (lsMem 0 [([.int .i64, .int .i64, .int .i64, .int .i64, .int .i64, .int .i64, .int .i64, .int .i64, .int .i64], l)]) 1 [])))))
 (KK (.b false) (lsMem 0 [([.int .i64, .int .i64, .int .i64, .int .i64, .int .i64, .int .i64, .int .i64, .int .i64, .int .i64], l)]) 1 []))))
 (KK (.b false) (lsMem 0 [([.int .i64, .int .i64, .int .i64, .int .i64, .int .i64, .int .i64, .int .i64, .int .i64, .int .i64], l)]) 1 [])))))))))))))))))))))) := by kernel_rfl
theorem checks_pure {m : Nat} (hm : 700 ≤ m) {H : Hp} {nx : Nat} (a b c d e f g h k mud lo hi : Int) {v_l : LV} {l : Ll} (hl_l : IsL H nx [.int .i64, .int .i64, .int .i64, .int .i64, .int .i64, .int .i64, .int .i64, .int .i64, .int .i64] l v_l) : Pure Try.prog AW m 3 [.agg [v_l], .agg [.i .i64 a, .i .i64 b, .i .i64 c, .i .i64 d, .i .i64 e, .i .i64 f, .i .i64 g, .i .i64 h, .i .i64 k], .i .i64 mud, .i .i64 lo, .i .i64 hi] H nx (.b true) := by
  obtain ⟨ν, n1, n2, n3, n4⟩ := ls_in (fs := fsu) (ov := true) (l := [([.int .i64, .int .i64, .int .i64, .int .i64, .int .i64, .int .i64, .int .i64, .int .i64, .int .i64], l)]) (lvs := [v_l]) 0 (fun i x lv e1 e2 => by
    cases i with
    | zero => simp at e1 e2; subst e1 e2; exact hl_l
    | succ i =>
      simp at e1) rfl
  refine pure_of (n := 20) (d := m - 21) (U := 30) (fs := fsu) (ov := true) (spK_ok (by omega)) spK_aw noLoop_ok (by decide) (by decide) (by omega) (args := [.agg [.ls false 0 (Ll.len l)], .agg [.i .i64 a, .i .i64 b, .i .i64 c, .i .i64 d, .i .i64 e, .i .i64 f, .i .i64 g, .i .i64 h, .i .i64 k], .i .i64 mud, .i .i64 lo, .i .i64 hi]) (M := lsMem 0 [([.int .i64, .int .i64, .int .i64, .int .i64, .int .i64, .int .i64, .int .i64, .int .i64, .int .i64], l)]) (snx := 1) ?_ (VSL.cons ⟨_, rfl, (VSL.cons (n4 0 _ _ rfl rfl) rfl)⟩ (VSL.cons ⟨_, rfl, (VSL.cons rfl (VSL.cons rfl (VSL.cons rfl (VSL.cons rfl (VSL.cons rfl (VSL.cons rfl (VSL.cons rfl (VSL.cons rfl (VSL.cons rfl rfl)))))))))⟩ (VSL.cons rfl (VSL.cons rfl (VSL.cons rfl rfl))))) (hs_in n2 n3)
  rw [checks_eq]
  have hj := joints_len l
  have hl : Ll.len l = (l.length : Int) := rfl
  have j1 : Ll.len (jointsL l) ≤ 1000000 := by show ((jointsL l).length : Int) ≤ 1000000; omega
  have ne : ∀ x : Int, decide (x ≠ x) = false := fun x => decide_eq_false fun h => h rfl
  by_cases h10 : Ll.len l > 10
  · rw [decide_eq_true h10]; exact end_b rfl
  · rw [decide_eq_false h10]
    by_cases hz : Ll.len l = 0
    · have hn : l = [] := List.length_eq_zero_iff.1 (by omega)
      subst hn
      rw [decide_eq_true hz]
      simp only [ne, cond_false, cond_true, sameB_self, sameLB_self, beq_self_eq_true]
      repeat' (first | exact end_b rfl | apply And.intro)
      all_goals first | trivial | omega
    · rw [decide_eq_false hz]
      simp only [ne, cond_false, cond_true, sameB_self, sameLB_self, beq_self_eq_true]
      repeat' (first | exact end_b rfl | apply And.intro)
      all_goals first | trivial | omega
end Go.Proofs.Ytibinojifhfbmaa
