/-
  Layer 3: the places and heights of holes.
-/
import Derived.Test.YtgjnkdedknpniaaMh
set_option linter.unusedSimpArgs false
set_option linter.unusedVariables false
set_option maxRecDepth 100000
namespace Go.Proofs.Ytgjnkdedknpniaa
open Go Go.Rx

abbrev spB {A : Go.Rx.Alg} : Go.Rx.SpL A := [(AW, Go.Rx.awakeS), (15, chkS), (16, rchkS), (17, volS), (18, rvolS)]
theorem spB_ok {ov : Bool} {d : Nat} (hd : 300 ≤ d) : SpOK (fs := fsh) (ov := ov) Try.prog AW d spB := SpOK.cons awake_ok (SpOK.cons (chkS_ok (by omega)) (SpOK.cons (rchkS_ok (by omega)) (SpOK.cons (volS_ok (by omega)) (SpOK.cons (rvolS_ok (by omega)) SpOK.nil))))
theorem spB_aw {fs : Fs} {ov : Bool} : (spOf (A := stdA fs ov) spB AW).isSome = true := rfl

theorem rwa_eq (u i s : Int) (l : Ll) (T : Al (SV (stdA fsh true))) (M : Al (SO (stdA fsh true))) (KK : Ex → List (SV (stdA fsh true)) → List (SO (stdA fsh true)) → List Ll → Prop) : sCode Try.prog (sCall Try.prog 30 (spOf sp0) noLoop 20) ⟨23, false, noLoop 23⟩ 30 (false :: [false, true, false, true, true, true]) (bodyAt Try.prog 23 [false, true, false, true, true, true]) (hdL (bodyAt Try.prog 23 [false, true, false, true, true, true]) T M 50 2 [(1, .i .i64 u), (2, .p 1 0)] [(0, .list 0 [.int .i64, .int .i64, .int .i64, .int .i64] false l), (1, .row 24 [.ls false 0 (Ll.len l)])] [(5, .i .i64 s), (6, .i .i64 i)] [] [] [] []) (outL 2 (tsOf [5, 6] [4]) [] [] [] KK) =
  (cond (decide (i < (Ll.len l)))
 ((0 : Int) ≤ i ∧ (i < (Ll.len l) ∧ (i < (Ll.len l) ∧ ((0 : Int) ≤ i ∧ (i < (Ll.len l) ∧ (i < (Ll.len l) ∧ (InK .i64 ((Ll.get l i 0) * (Ll.get l i 2)) ∧ (InK .i64 (s + ((Ll.get l i 0) * (Ll.get l i 2))) ∧ (cond (decide (u < (s + ((Ll.get l i 0) * (Ll.get l i 2)))))
 (KK .ret [(.i .i64 i)] [] [])
 (InK .i64 (i + (1 : Int)) ∧ (KK .normal [(.i .i64 (s + ((Ll.get l i 0) * (Ll.get l i 2)))), (.i .i64 (i + (1 : Int)))] [] [])))))))))))
 (KK (.exit 0) [(.i .i64 s), (.i .i64 i)] [] [])) := by kernel_rfl
theorem rwa_go (u : Int) (l : Ll) (i : Int) (s : Int) (i_0 : Int) (s_0 : Int) (r1 : i_0 = (0 : Int)) (r2 : s_0 = (0 : Int)) (T : Al (SV (stdA fsh true))) (M : Al (SO (stdA fsh true))) (KK : Ex → List (SV (stdA fsh true)) → List (SO (stdA fsh true)) → List Ll → Prop) (p1 : (holeE l) = (0 : Int)) (hI : 0 ≤ i ∧ i ≤ whN l u ∧ s = volN l i.toNat) (hn : ∀ (i' : Int) (s' : Int), 0 ≤ i' ∧ i' ≤ whN l u ∧ s' = volN l i'.toNat → (20 - i').toNat < (20 - i).toNat → KK .normal [.i .i64 s', .i .i64 i'] [] []) (hx1 : (whN l u) < (Ll.len l) → KK .ret [.i .i64 (whN l u)] [] []) (hx2 : ¬ ((whN l u) < (Ll.len l)) → KK (.exit 0) [.i .i64 (volN l l.length), .i .i64 (Ll.len l)] [] []) :
    sCode Try.prog (sCall Try.prog 30 (spOf sp0) noLoop 20) ⟨23, false, noLoop 23⟩ 30 (false :: [false, true, false, true, true, true]) (bodyAt Try.prog 23 [false, true, false, true, true, true]) (hdL (bodyAt Try.prog 23 [false, true, false, true, true, true]) T M 50 2 [(1, .i .i64 u), (2, .p 1 0)] [(0, .list 0 [.int .i64, .int .i64, .int .i64, .int .i64] false l), (1, .row 24 [.ls false 0 (Ll.len l)])] [(5, .i .i64 s), (6, .i .i64 i)] [] [] [] []) (outL 2 (tsOf [5, 6] [4]) [] [] [] KK) := by
  refine Eq.mpr (rwa_eq u i s l T M KK) ?_
  simp only [cond_iff, InK64]
  obtain ⟨i0, i1, rfl⟩ := hI
  have hl : Ll.len l = (l.length : Int) := rfl
  have p0 : HoleOK l := hole_of p1
  have hlen := p0.len
  have hw := whN_spec l u
  by_cases h : i < Ll.len l
  · have ha := p0.at i0 (by omega)
    have hb := p0.b (n := i.toNat) (by omega)
    have hm := mul_bd (show 0 ≤ Ll.get l i 0 by omega) ha.1.2 (show 0 ≤ Ll.get l i 2 by omega) ha.2.2.2.2.1
    have e := volN_succ (l := l) i0
    have e3 := risN_succ (l := l) i0
    have e1 : (i + 1).toNat = i.toNat + 1 := by omega
    have hs := leastN_step (p := fun j => decide (u < volN l (j.toNat + 1))) (k := l.length) i0 i1 (by omega)
    rw [e] at hs
    have hR : u < volN l i.toNat + Ll.get l i 0 * Ll.get l i 2 → KK .ret [.i .i64 i] [] [] := fun h2 => by
      have h3 : whN l u = i := hs.1 (decide_eq_true h2)
      have := hx1 (show whN l u < Ll.len l by omega)
      rw [h3] at this; exact this
    have hN : ¬ u < volN l i.toNat + Ll.get l i 0 * Ll.get l i 2 → KK .normal [.i .i64 (volN l i.toNat + Ll.get l i 0 * Ll.get l i 2), .i .i64 (i + 1)] [] [] := fun h2 => hn (i + 1) _ ⟨by omega, hs.2 (decide_eq_false h2), by rw [e1, e]⟩ (by omega)
    generalize Ll.get l i 0 * Ll.get l i 2 = m at *
    repeat' (first | apply And.intro | intro _)
    all_goals first | trivial | omega | exact hR (by assumption) | exact hN (by assumption)
  · obtain rfl : i = l.length := by omega
    have hX := hx2 (show ¬ whN l u < Ll.len l by omega)
    repeat' (first | apply And.intro | intro _)
    all_goals first | trivial | omega | exact hX
abbrev rwaF {A : Go.Rx.Alg} : Code → Go.Rx.SS A → (Go.Rx.Ex → Go.Rx.SS A → A.R) → A.R := fun c_ s_ K_ => match s_.T.get 1, s_.T.get 2, s_.H.get 0, s_.H.get 1, s_.T.get 5, s_.T.get 6 with
  | some (.i .i64 u), some (.p 1 0), some (.list t1 k1 false l), some (.row t2 [.ls false 0 m3]), some (.i .i64 s), some (.i .i64 i) => bif ((((Nat.beq s_.N 50 && Nat.beq s_.nx 2) && Nat.beq t1 0) && decide (k1 = [.int .i64, .int .i64, .int .i64, .int .i64])) && Nat.beq t2 24) then (A.need .eql m3 (A.len l) (A.need .eql (A.app 1 [l] []) (A.lit 0) (A.need .eql i (A.lit 0) (A.need .eql s (A.lit 0) ((A.br (A.cmp .lss (A.app 12 [l] [u]) (A.len l)) (fun _ => K_ .ret (Go.Rx.hdL c_ s_.T (Go.Rx.kills [] s_.H) 50 2 [(1, .i .i64 u), (2, .p 1 0)] [(0, .list 0 [.int .i64, .int .i64, .int .i64, .int .i64] false l), (1, .row 24 [.ls false 0 (A.len l)])] [(4, .i .i64 (A.app 12 [l] [u]))] [] [] [] (Go.Rx.addW ([] ++ []) s_.wr))) (fun _ => K_ (.exit 0) (Go.Rx.hdL c_ s_.T (Go.Rx.kills [] s_.H) 50 2 [(1, .i .i64 u), (2, .p 1 0)] [(0, .list 0 [.int .i64, .int .i64, .int .i64, .int .i64] false l), (1, .row 24 [.ls false 0 (A.len l)])] [(5, .i .i64 (A.app 8 [l] [])), (6, .i .i64 (A.len l))] [] [] [] (Go.Rx.addW ([] ++ []) s_.wr))))))))) else A.fail "frame of rwa"
  | _, _, _, _, _, _ => A.fail "rwa"
theorem rwaF_ok {d : Nat} (hd : 100 ≤ d) : LoopOK (fs := fsh) (ov := true) Try.prog AW d 23 [false, true, false, true, true, true] false rwaF := by
  intro m_ hm_ fn_ c0_ hfn_ hb_ c_ ro_ hro_ hc_ s_ K_ W_ ν_ S_ h_ hs_
  obtain rfl := body_of hfn_ hb_ hc_
  unfold rwaF at h_
  split at h_
  · rename_i u_0 t1 k1 l_0 t2 m3_0 s_0_0 i_0_0 g0 g1 g2 g3 g4 g5
    obtain ⟨u, rfl⟩ : ∃ q : Int, q = u_0 := ⟨u_0, rfl⟩
    obtain ⟨l, rfl⟩ : ∃ q : Ll, q = l_0 := ⟨l_0, rfl⟩
    obtain ⟨m3, rfl⟩ : ∃ q : Int, q = m3_0 := ⟨m3_0, rfl⟩
    obtain ⟨s_0, rfl⟩ : ∃ q : Int, q = s_0_0 := ⟨s_0_0, rfl⟩
    obtain ⟨i_0, rfl⟩ : ∃ q : Int, q = i_0_0 := ⟨i_0_0, rfl⟩
    obtain ⟨T_, FN_, M_, snx_, wr_⟩ := s_
    have hN : ((((Nat.beq FN_ 50 && Nat.beq snx_ 2) && Nat.beq t1 0) && decide (k1 = [.int .i64, .int .i64, .int .i64, .int .i64])) && Nat.beq t2 24) = true := by
      cases hq : (((((Nat.beq FN_ 50 && Nat.beq snx_ 2) && Nat.beq t1 0) && decide (k1 = [.int .i64, .int .i64, .int .i64, .int .i64])) && Nat.beq t2 24) : Bool) with
      | true => rfl
      | false => (rw [hq] at h_; exact h_.elim)
    rw [hN, cond_true] at h_
    simp only [Bool.and_eq_true, beq_iff, decide_eq_true_eq] at hN
    obtain ⟨⟨⟨⟨rfl, rfl⟩, rfl⟩, rfl⟩, rfl⟩ := hN
    obtain ⟨q0, h_⟩ := h_
    obtain rfl : m3 = (Ll.len l) := q0
    obtain ⟨q1, h_⟩ := h_
    have q1 : (holeE l) = (0 : Int) := q1
    obtain ⟨q2, h_⟩ := h_
    have q2 : i_0 = (0 : Int) := q2
    obtain ⟨q3, h_⟩ := h_
    have q3 : s_0 = (0 : Int) := q3
    replace h_ : cond (decide ((whN l u) < (Ll.len l))) (K_ .ret (hdL (bodyAt Try.prog 23 [false, true, false, true, true, true]) T_ (kills [] M_) 50 2 [(1, .i .i64 u), (2, .p 1 0)] [(0, .list 0 [.int .i64, .int .i64, .int .i64, .int .i64] false l), (1, .row 24 [.ls false 0 (Ll.len l)])] [(4, .i .i64 (whN l u))] [] [] [] (addW ([] ++ []) wr_))) (K_ (.exit 0) (hdL (bodyAt Try.prog 23 [false, true, false, true, true, true]) T_ (kills [] M_) 50 2 [(1, .i .i64 u), (2, .p 1 0)] [(0, .list 0 [.int .i64, .int .i64, .int .i64, .int .i64] false l), (1, .row 24 [.ls false 0 (Ll.len l)])] [(5, .i .i64 (volN l l.length)), (6, .i .i64 (Ll.len l))] [] [] [] (addW ([] ++ []) wr_))) := h_
    have hx1 : (whN l u) < (Ll.len l) → K_ .ret (hdL (bodyAt Try.prog 23 [false, true, false, true, true, true]) T_ (kills [] M_) 50 2 [(1, .i .i64 u), (2, .p 1 0)] [(0, .list 0 [.int .i64, .int .i64, .int .i64, .int .i64] false l), (1, .row 24 [.ls false 0 (Ll.len l)])] [(4, .i .i64 (whN l u))] [] [] [] (addW ([] ++ []) wr_)) := fun e1 => by
      have h2 := h_
      rw [decide_eq_true e1] at h2; simp only [cond_true, cond_false] at h2; exact h2
    have hx2 : ¬ ((whN l u) < (Ll.len l)) → K_ (.exit 0) (hdL (bodyAt Try.prog 23 [false, true, false, true, true, true]) T_ (kills [] M_) 50 2 [(1, .i .i64 u), (2, .p 1 0)] [(0, .list 0 [.int .i64, .int .i64, .int .i64, .int .i64] false l), (1, .row 24 [.ls false 0 (Ll.len l)])] [(5, .i .i64 (volN l l.length)), (6, .i .i64 (Ll.len l))] [] [] [] (addW ([] ++ []) wr_)) := fun e1 => by
      have h2 := h_
      rw [decide_eq_false e1] at h2; simp only [cond_true, cond_false] at h2; exact h2
    refine loop_ruleL (fs := fsh) (ov := true) (s := ⟨T_, 50, M_, 2, wr_⟩) (X := Int × Int) (B := []) (mv := []) (kt := [(1, .i .i64 u), (2, .p 1 0)]) (kr := [(0, .list 0 [.int .i64, .int .i64, .int .i64, .int .i64] false l), (1, .row 24 [.ls false 0 (Ll.len l)])]) (ty := []) (x := (i_0, s_0))
      (Inv := (fun x_ : Int × Int => match x_ with | (i, s) => 0 ≤ i ∧ i ≤ whN l u ∧ s = volN l i.toNat)) (μ := (fun x_ : Int × Int => match x_ with | (i, s) => (20 - i).toNat)) (ts := tsOf [5, 6] [4]) (sl := (fun x_ : Int × Int => match x_ with | (i, s) => [.i .i64 s, .i .i64 i])) (bl := (fun x_ : Int × Int => match x_ with | (i, s) => [])) (ll := (fun x_ : Int × Int => match x_ with | (i, s) => [])) (Q := fun e_ vs_ os_ hs_ => K_ e_ (hdL (bodyAt Try.prog 23 [false, true, false, true, true, true]) T_ (kills [] M_) 50 2 [(1, .i .i64 u), (2, .p 1 0)] [(0, .list 0 [.int .i64, .int .i64, .int .i64, .int .i64] false l), (1, .row 24 [.ls false 0 (Ll.len l)])] (((tsOf [5, 6] [4]) e_).zip vs_) ([].zip os_) [] hs_ (addW ([] ++ []) wr_)))
      (L := LL) (U := 30) (cs := sCall Try.prog 30 (spOf sp0) noLoop 20) (call := CN Try.prog AW m_) (lp := ⟨23, false, noLoop 23⟩) (root := c0_) (p := [false, true, false, true, true, true])
      (show CallSOK _ _ from by
        have := sCall_ok (P := Try.prog) (d := m_ - 20) (U := 30) (lp := noLoop) (sp0_ok (fs := fsh) (ov := true) (d := m_ - 20)) (sp0_aw (fs := fsh) (ov := true)) (noLoop_ok) (by decide) rfl 20
        rwa [show 20 + (m_ - 20) = m_ by omega] at this) (ctx_of (g := 23) (rg := false) (at_ := noLoop 23) (fun p rg f h => by cases h) hfn_ hb_ hro_) (by decide) hc_
      (fun x o ho => by cases ho)
      (fun x hx => by cases hx) (fun x hx => by cases hx) (fun x hx => by cases hx)
      (fun x hx => by
        simp only [List.mem_cons, List.not_mem_nil, or_false] at hx
        rcases hx with rfl | rfl
        · exact g0
        · exact g1) (fun x hx => by
        simp only [List.mem_cons, List.not_mem_nil, or_false] at hx
        rcases hx with rfl | rfl
        · exact ⟨g2, by simp⟩
        · exact ⟨g3, by simp⟩) ?_ (fun _ _ _ _ _ h => h) ?_ ?_ ?_ hs_
    · rintro ⟨i, s⟩ hI
      exact rwa_go u l i s i_0 s_0 q2 q3 T_ (kills [] M_) _ q1 hI (fun i' s' ha hb => ⟨(i', s'), ha, hb, rfl, rfl, rfl⟩) (fun e1 => ⟨by simp [SO.mine], hx1 e1⟩) (fun e1 => ⟨by simp [SO.mine], hx2 e1⟩)
    · show 0 ≤ i_0 ∧ i_0 ≤ whN l u ∧ s_0 = volN l i_0.toNat
      have p0 := hole_of q1
      exact ⟨by omega, by have := (whN_spec l u).1; omega, by rw [q2, q3]; rfl⟩
    · show (20 - i_0).toNat < LL
      exact Nat.lt_of_le_of_lt (show _ ≤ 1000 by omega) (by decide)
    · exact ⟨⟨[.i .i64 s_0, .i .i64 i_0], [], [], [], by simp [gets, tsOf, g0, g1, g2, g3, g4, g5], by simp [gets, g0, g1, g2, g3, g4, g5], rfl, rfl, by simp [listsOf] <;> rfl⟩⟩
  · exact h_.elim
abbrev lpRW {A : Go.Rx.Alg} : Nat → Go.Rx.LoopS A := Go.Rx.lpOf [(23, [false, true, false, true, true, true], false, rwaF)]
theorem lpRW_ok {d : Nat} (hd : 100 ≤ d) : LoopsAll (fs := fsh) (ov := true) Try.prog AW d lpRW := lpOf_ok fun x hx => by
  simp only [List.mem_cons, List.not_mem_nil, or_false] at hx
  rcases hx with rfl
  · exact rwaF_ok (by omega)
theorem rwhere_eq (u : Int) (l : Ll) (KK : KS (stdA fsh true)) : sFunc Try.prog 30 (sCall Try.prog 30 (spOf spB) lpRW 20) lpRW 23 [.agg [.ls false 0 (Ll.len l)], .i .i64 u] (lsMem 0 [([.int .i64, .int .i64, .int .i64, .int .i64], l)]) 1 KK =
  ((Ll.len l) = (Ll.len l) ∧ (cond (decide ((holeE l) ≠ (0 : Int)))
 (KK (.i .i64 (-1 : Int)) (lsMem 0 [([.int .i64, .int .i64, .int .i64, .int .i64], l)]) 1 [])
 (cond (decide (u < (0 : Int)))
 (KK (.i .i64 (-1 : Int)) (lsMem 0 [([.int .i64, .int .i64, .int .i64, .int .i64], l)]) 1 [])
 ((Ll.len l) = (Ll.len l) ∧ (cond (decide (u > (holeV l)))
 (KK (.i .i64 (-1 : Int)) (lsMem 0 [([.int .i64, .int .i64, .int .i64, .int .i64], l)]) 1 [])
 ((Ll.len l) = (Ll.len l) ∧ ((holeE l) = (0 : Int) ∧ ((0 : Int) = (0 : Int) ∧ ((0 : Int) = (0 : Int) ∧ (cond (decide ((whN l u) < (Ll.len l)))
 (KK (.i .i64 (whN l u)) (lsMem 0 [([.int .i64, .int .i64, .int .i64, .int .i64], l)]) 1 [])
 (InK .i64 ((Ll.len l) - (1 : Int)) ∧ (KK (.i .i64 ((Ll.len l) - (1 : Int))) (lsMem 0 [([.int .i64, .int .i64, .int .i64, .int .i64], l)]) 1 [])))))))))))) := by kernel_rfl
theorem rwhere_pure {m : Nat} (hm : 400 ≤ m) {H : Hp} {nx : Nat} (u : Int) {v_l : LV} {l : Ll} (hl_l : IsL H nx [.int .i64, .int .i64, .int .i64, .int .i64] l v_l) : Pure Try.prog AW m 23 [.agg [v_l], .i .i64 u] H nx (.i .i64 (whereI l u)) := by
  obtain ⟨ν, n1, n2, n3, n4⟩ := ls_in (fs := fsh) (ov := true) (l := [([.int .i64, .int .i64, .int .i64, .int .i64], l)]) (lvs := [v_l]) 0 (fun i x lv e1 e2 => by
    cases i with
    | zero => simp at e1 e2; subst e1 e2; exact hl_l
    | succ i =>
      simp at e1) rfl
  refine pure_of (n := 20) (d := m - 21) (U := 30) (fs := fsh) (ov := true) (spB_ok (by omega)) spB_aw (lpRW_ok (by omega)) (by decide) (by decide) (by omega) (args := [.agg [.ls false 0 (Ll.len l)], .i .i64 u]) (M := lsMem 0 [([.int .i64, .int .i64, .int .i64, .int .i64], l)]) (snx := 1) ?_ (VSL.cons ⟨_, rfl, (VSL.cons (n4 0 _ _ rfl rfl) rfl)⟩ (VSL.cons rfl rfl)) (hs_in n2 n3)
  rw [rwhere_eq]
  simp only [cond_iff, InK64]
  have hl : Ll.len l = (l.length : Int) := rfl
  have c0 : holeV l = if holeE l = 0 then volN l l.length else 0 := rfl
  have c1 : whereI l u = if holeE l = 0 ∧ 0 ≤ u ∧ u ≤ volN l l.length then whI l u else -1 := rfl
  have c2 : whI l u = if whN l u < l.length then whN l u else l.length - 1 := rfl
  have c3 : holeE l = 0 → 1 ≤ l.length ∧ l.length ≤ 16 := fun h => (hole_of h).len
  have c4 : ∀ x, (fsh.i 3 [l] [x] : Int) = whereI l x := fun _ => rfl
  by_cases hz : holeE l = 0
  · have c3 := c3 hz
    rw [if_pos hz] at c0
    repeat' (first | apply And.intro | intro _)
    all_goals first
      | trivial
      | omega
      | (refine end_i ?_; show _ = whereI l u; rw [c1, c2]; repeat' split
         all_goals omega)
  · repeat' (first | apply And.intro | intro _)
    all_goals first
      | trivial
      | omega
      | (refine end_i ?_; show _ = whereI l u; rw [c1, if_neg (by omega)])
abbrev rwhereS {A : Go.Rx.Alg} : List (Go.Rx.SV A) → Go.Rx.SH A → Nat → Go.Rx.KS A → A.R := fun args_ M_ snx_ K_ => match args_ with
  | [.agg [x_l], .i .i64 u] => (match Go.Rx.lsArg M_ [.int .i64, .int .i64, .int .i64, .int .i64] x_l with | some (l, n_l) => (A.need .eql n_l (A.len l) (K_ (.i .i64 (A.app 3 [l] [u])) M_ snx_ [])) | none => A.fail "rwhere")
  | _ => A.fail "rwhere"
theorem rwhereS_ok {ov : Bool} {d : Nat} (hd : 400 ≤ d) : SpecOK (fs := fsh) (ov := ov) Try.prog AW d 23 rwhereS := by
  intro m_ hm_ args_ M_ snx_ K_ h_ ν_ largs_ H_ nx_ ha_ hM_
  unfold rwhereS at h_
  split at h_
  · rename_i x_l u
    obtain ⟨y1, r1, rfl, ⟨l1, rfl, ⟨v_l, r2, rfl, hx_l, rfl⟩⟩, ⟨y3, r3, rfl, rfl, rfl⟩⟩ := ha_
    split at h_
    · rename_i l n_l q_l
      obtain ⟨e_l, h_⟩ := h_
      exact pure_got (rwhere_pure (by omega) u (lsArg_ok hM_ hx_l q_l e_l)) hM_ (v := .i .i64 _) rfl h_
    · exact h_.elim
  · exact h_.elim

theorem wa_eq (u i f v : Int) (l : Ll) (T : Al (SV (stdA fsh true))) (M : Al (SO (stdA fsh true))) (KK : Ex → List (SV (stdA fsh true)) → List (SO (stdA fsh true)) → List Ll → Prop) : sCode Try.prog (sCall Try.prog 30 (spOf sp0) noLoop 20) ⟨79, false, noLoop 79⟩ 30 (false :: [false, true, true]) (bodyAt Try.prog 79 [false, true, true]) (hdL (bodyAt Try.prog 79 [false, true, true]) T M 32 6 [(0, .yld 5), (8, .ls false 0 (Ll.len l)), (9, .i .i64 (Ll.len l))] [(0, .list 0 [.int .i64, .int .i64, .int .i64, .int .i64] false l), (2, .row 2 [.i .i64 u])] [(3, .i .i64 f), (10, .i .i64 i)] [(3, .row 3 [.i .i64 v]), (5, .frm 22 [false, true, false, true, true, true] 31 (.c 3 (some (.p 2 0)) (.c 5 (some (.p 3 0)) .l)) false .normal)] [] [] []) (outL 6 (tsOf [3, 10] []) [3, 5] [] [] KK) =
  (cond (decide (i < (Ll.len l)))
 ((0 : Int) ≤ i ∧ (i < (Ll.len l) ∧ (i < (Ll.len l) ∧ (InK .i64 ((Ll.get l i 0) * (Ll.get l i 2)) ∧ (InK .i64 (f + ((Ll.get l i 0) * (Ll.get l i 2))) ∧ (cond (decide (f ≤ u))
 (InK .i64 (i + (1 : Int)) ∧ (KK .normal [(.i .i64 (f + ((Ll.get l i 0) * (Ll.get l i 2)))), (.i .i64 (i + (1 : Int)))] [(.row 3 [(.i .i64 i)]), (.frm 22 [false, true, false, true, true, true] 31 (.c 3 (some (.p 2 0)) (.c 5 (some (.p 3 0)) .l)) false .normal)] []))
 (InK .i64 (i + (1 : Int)) ∧ (KK .normal [(.i .i64 (f + ((Ll.get l i 0) * (Ll.get l i 2)))), (.i .i64 (i + (1 : Int)))] [(.row 3 [(.i .i64 v)]), (.frm 22 [false, true, false, true, true, true] 31 (.c 3 (some (.p 2 0)) (.c 5 (some (.p 3 0)) .l)) false .normal)] []))))))))
 (KK (.exit 0) [(.i .i64 f), (.i .i64 i)] [(.row 3 [(.i .i64 v)]), (.frm 22 [false, true, false, true, true, true] 31 (.c 3 (some (.p 2 0)) (.c 5 (some (.p 3 0)) .l)) false .normal)] [])) := by kernel_rfl
theorem wa_go (u : Int) (l : Ll) (i : Int) (f : Int) (v : Int) (i_0 : Int) (f_0 : Int) (v_0 : Int) (r1 : i_0 = (0 : Int)) (r2 : f_0 = (0 : Int)) (r3 : v_0 = (-1 : Int)) (T : Al (SV (stdA fsh true))) (M : Al (SO (stdA fsh true))) (KK : Ex → List (SV (stdA fsh true)) → List (SO (stdA fsh true)) → List Ll → Prop) (p1 : (holeE l) = (0 : Int)) (p2 : (0 : Int) ≤ u) (hI : 0 ≤ i ∧ i ≤ l.length ∧ f = volN l i.toNat ∧ v = wAt l u i) (hn : ∀ (i' : Int) (f' : Int) (v' : Int), 0 ≤ i' ∧ i' ≤ l.length ∧ f' = volN l i'.toNat ∧ v' = wAt l u i' → (20 - i').toNat < (20 - i).toNat → KK .normal [.i .i64 f', .i .i64 i'] [.row 3 [.i .i64 v'], .frm 22 [false, true, false, true, true, true] 31 (.c 3 (some (.p 2 0)) (.c 5 (some (.p 3 0)) .l)) false .normal] []) (hx1 : KK (.exit 0) [.i .i64 (volN l l.length), .i .i64 (Ll.len l)] [.row 3 [.i .i64 (whI l u)], .frm 22 [false, true, false, true, true, true] 31 (.c 3 (some (.p 2 0)) (.c 5 (some (.p 3 0)) .l)) false .normal] []) :
    sCode Try.prog (sCall Try.prog 30 (spOf sp0) noLoop 20) ⟨79, false, noLoop 79⟩ 30 (false :: [false, true, true]) (bodyAt Try.prog 79 [false, true, true]) (hdL (bodyAt Try.prog 79 [false, true, true]) T M 32 6 [(0, .yld 5), (8, .ls false 0 (Ll.len l)), (9, .i .i64 (Ll.len l))] [(0, .list 0 [.int .i64, .int .i64, .int .i64, .int .i64] false l), (2, .row 2 [.i .i64 u])] [(3, .i .i64 f), (10, .i .i64 i)] [(3, .row 3 [.i .i64 v]), (5, .frm 22 [false, true, false, true, true, true] 31 (.c 3 (some (.p 2 0)) (.c 5 (some (.p 3 0)) .l)) false .normal)] [] [] []) (outL 6 (tsOf [3, 10] []) [3, 5] [] [] KK) := by
  refine Eq.mpr (wa_eq u i f v l T M KK) ?_
  simp only [cond_iff, InK64]
  obtain ⟨i0, i1, rfl, rfl⟩ := hI
  have hl : Ll.len l = (l.length : Int) := rfl
  have p0 : HoleOK l := hole_of p1
  have hlen := p0.len
  have hw := whN_spec l u
  have w0 : ∀ j, wAt l u j = if j = 0 then -1 else if j - 1 ≤ whN l u then j - 1 else whN l u := fun _ => rfl
  by_cases h : i < Ll.len l
  · have ha := p0.at i0 (by omega)
    have hb := p0.b (n := i.toNat) (by omega)
    have hm := mul_bd (show 0 ≤ Ll.get l i 0 by omega) ha.1.2 (show 0 ≤ Ll.get l i 2 by omega) ha.2.2.2.2.1
    have e := volN_succ (l := l) i0
    have e3 := risN_succ (l := l) i0
    have e1 : (i + 1).toNat = i.toNat + 1 := by omega
    have hf := from_le p0 p2 (i := i.toNat) (by omega)
    rw [Int.toNat_of_nonneg i0] at hf
    have hY : volN l i.toNat ≤ u → KK .normal [.i .i64 (volN l i.toNat + Ll.get l i 0 * Ll.get l i 2), .i .i64 (i + 1)] [.row 3 [.i .i64 i], .frm 22 [false, true, false, true, true, true] 31 (.c 3 (some (.p 2 0)) (.c 5 (some (.p 3 0)) .l)) false .normal] [] := fun h2 => by
      have := hn (i + 1) _ (wAt l u (i + 1)) ⟨by omega, by omega, by rw [e1, e], rfl⟩ (by omega)
      rw [show wAt l u (i + 1) = i from by have := hf.1 h2; rw [w0, if_neg (by omega), if_pos (by omega)]; omega] at this
      exact this
    have hN : ¬ volN l i.toNat ≤ u → KK .normal [.i .i64 (volN l i.toNat + Ll.get l i 0 * Ll.get l i 2), .i .i64 (i + 1)] [.row 3 [.i .i64 (wAt l u i)], .frm 22 [false, true, false, true, true, true] 31 (.c 3 (some (.p 2 0)) (.c 5 (some (.p 3 0)) .l)) false .normal] [] := fun h2 => by
      have hf2 : ¬ i ≤ whN l u := fun hc => h2 (hf.2 hc)
      have := hn (i + 1) _ (wAt l u i) ⟨by omega, by omega, by rw [e1, e], by
        rw [w0, w0]; repeat' split
        all_goals omega⟩ (by omega)
      exact this
    generalize Ll.get l i 0 * Ll.get l i 2 = m at *
    repeat' (first | apply And.intro | intro _)
    all_goals first | trivial | omega | exact hY (by assumption) | exact hN (by assumption)
  · obtain rfl : i = l.length := by omega
    have ew : wAt l u l.length = whI l u := by
      rw [w0, whI]; repeat' split
      all_goals omega
    rw [ew, Int.toNat_natCast]
    repeat' (first | apply And.intro | intro _)
    all_goals first | trivial | omega | exact hx1
abbrev waF {A : Go.Rx.Alg} : Code → Go.Rx.SS A → (Go.Rx.Ex → Go.Rx.SS A → A.R) → A.R := fun c_ s_ K_ => match s_.T.get 0, s_.T.get 8, s_.T.get 9, s_.H.get 0, s_.H.get 2, s_.T.get 3, s_.T.get 10, s_.H.get 3, s_.H.get 5 with
  | some (.yld 5), some (.ls false 0 m1), some (.i .i64 m2), some (.list t3 k3 false l), some (.row t4 [.i .i64 u]), some (.i .i64 f), some (.i .i64 i), some (.row t5 [.i .i64 v]), some (.frm f6 p6_ n6_ T6_ false .normal) => (match T6_.get 3, T6_.get 5 with
    | some (.p 2 0), some (.p 3 0) => bif ((((((((Nat.beq s_.N 32 && Nat.beq s_.nx 6) && Nat.beq t3 0) && decide (k3 = [.int .i64, .int .i64, .int .i64, .int .i64])) && Nat.beq t4 2) && Nat.beq t5 3) && Nat.beq f6 22) && Go.Rx.samePath p6_ [false, true, false, true, true, true]) && Nat.beq n6_ 31) then (A.need .eql m1 (A.len l) (A.need .eql m2 (A.len l) (A.need .eql (A.app 1 [l] []) (A.lit 0) (A.need .leq (A.lit 0) u (A.need .eql i (A.lit 0) (A.need .eql f (A.lit 0) (A.need .eql v (A.lit (-1)) (K_ (.exit 0) (Go.Rx.hdL c_ s_.T (Go.Rx.kills [] (s_.H.set 5 (some (.frm 22 [false, true, false, true, true, true] 31 (.c 3 (some (.p 2 0)) (.c 5 (some (.p 3 0)) .l)) false .normal)))) 32 6 [(0, .yld 5), (8, .ls false 0 (A.len l)), (9, .i .i64 (A.len l))] [(0, .list 0 [.int .i64, .int .i64, .int .i64, .int .i64] false l), (2, .row 2 [.i .i64 u])] [(3, .i .i64 (A.app 8 [l] [])), (10, .i .i64 (A.len l))] [(3, .row 3 [.i .i64 (A.app 11 [l] [u])]), (5, .frm 22 [false, true, false, true, true, true] 31 (.c 3 (some (.p 2 0)) (.c 5 (some (.p 3 0)) .l)) false .normal)] [] [] (Go.Rx.addW ([] ++ [3, 5]) s_.wr)))))))))) else A.fail "frame of wa"
    | _, _ => A.fail "slots of wa")
  | _, _, _, _, _, _, _, _, _ => A.fail "wa"
theorem waF_ok {d : Nat} (hd : 100 ≤ d) : LoopOK (fs := fsh) (ov := true) Try.prog AW d 79 [false, true, true] false waF := by
  intro m_ hm_ fn_ c0_ hfn_ hb_ c_ ro_ hro_ hc_ s_ K_ W_ ν_ S_ h_ hs_
  obtain rfl := body_of hfn_ hb_ hc_
  unfold waF at h_
  split at h_
  · rename_i m1_0 m2_0 t3 k3 l_0 t4 u_0 f_0_0 i_0_0 t5 v_0_0 f6 p6_ n6_ T6_ g0 g1 g2 g3 g4 g5 g6 g7 g8
    split at h_
    rotate_left
    · exact h_.elim
    rename_i z0 z1
    obtain ⟨m1, rfl⟩ : ∃ q : Int, q = m1_0 := ⟨m1_0, rfl⟩
    obtain ⟨m2, rfl⟩ : ∃ q : Int, q = m2_0 := ⟨m2_0, rfl⟩
    obtain ⟨l, rfl⟩ : ∃ q : Ll, q = l_0 := ⟨l_0, rfl⟩
    obtain ⟨u, rfl⟩ : ∃ q : Int, q = u_0 := ⟨u_0, rfl⟩
    obtain ⟨f_0, rfl⟩ : ∃ q : Int, q = f_0_0 := ⟨f_0_0, rfl⟩
    obtain ⟨i_0, rfl⟩ : ∃ q : Int, q = i_0_0 := ⟨i_0_0, rfl⟩
    obtain ⟨v_0, rfl⟩ : ∃ q : Int, q = v_0_0 := ⟨v_0_0, rfl⟩
    obtain ⟨T_, FN_, M_, snx_, wr_⟩ := s_
    have hN : ((((((((Nat.beq FN_ 32 && Nat.beq snx_ 6) && Nat.beq t3 0) && decide (k3 = [.int .i64, .int .i64, .int .i64, .int .i64])) && Nat.beq t4 2) && Nat.beq t5 3) && Nat.beq f6 22) && Go.Rx.samePath p6_ [false, true, false, true, true, true]) && Nat.beq n6_ 31) = true := by
      cases hq : (((((((((Nat.beq FN_ 32 && Nat.beq snx_ 6) && Nat.beq t3 0) && decide (k3 = [.int .i64, .int .i64, .int .i64, .int .i64])) && Nat.beq t4 2) && Nat.beq t5 3) && Nat.beq f6 22) && Go.Rx.samePath p6_ [false, true, false, true, true, true]) && Nat.beq n6_ 31) : Bool) with
      | true => rfl
      | false => (rw [hq] at h_; exact h_.elim)
    rw [hN, cond_true] at h_
    simp only [Bool.and_eq_true, beq_iff, decide_eq_true_eq] at hN
    obtain ⟨⟨⟨⟨⟨⟨⟨⟨rfl, rfl⟩, rfl⟩, rfl⟩, rfl⟩, rfl⟩, rfl⟩, hsp_⟩, rfl⟩ := hN
    obtain rfl := samePath_ok hsp_
    obtain ⟨q0, h_⟩ := h_
    obtain rfl : m1 = (Ll.len l) := q0
    obtain ⟨q0, h_⟩ := h_
    obtain rfl : m2 = (Ll.len l) := q0
    obtain ⟨q1, h_⟩ := h_
    have q1 : (holeE l) = (0 : Int) := q1
    obtain ⟨q2, h_⟩ := h_
    have q2 : (0 : Int) ≤ u := q2
    obtain ⟨q3, h_⟩ := h_
    have q3 : i_0 = (0 : Int) := q3
    obtain ⟨q4, h_⟩ := h_
    have q4 : f_0 = (0 : Int) := q4
    obtain ⟨q5, h_⟩ := h_
    have q5 : v_0 = (-1 : Int) := q5
    have hs2_ := sim_frm hs_ (kt := [(3, .p 2 0), (5, .p 3 0)]) g8 (fun x hx => by
      simp only [List.mem_cons, List.not_mem_nil, or_false] at hx
      rcases hx with rfl | rfl
      · exact z0
      · exact z1)
    replace hs2_ : Sim W_ ν_ ⟨T_, 32, Al.set M_ 5 (some (.frm 22 [false, true, false, true, true, true] 31 (.c 3 (some (.p 2 0)) (.c 5 (some (.p 3 0)) .l)) false .normal)), 6, wr_⟩ S_ := hs2_
    refine GoC.know (s' := ⟨T_, 32, Al.set M_ 5 (some (.frm 22 [false, true, false, true, true, true] 31 (.c 3 (some (.p 2 0)) (.c 5 (some (.p 3 0)) .l)) false .normal)), 6, wr_⟩) ⟨rfl, rfl⟩ ?_
    have w3 := (Al.get_set_ne M_ (some (.frm 22 [false, true, false, true, true, true] 31 (.c 3 (some (.p 2 0)) (.c 5 (some (.p 3 0)) .l)) false .normal)) (show 0 ≠ 5 by decide)).trans g3
    have w4 := (Al.get_set_ne M_ (some (.frm 22 [false, true, false, true, true, true] 31 (.c 3 (some (.p 2 0)) (.c 5 (some (.p 3 0)) .l)) false .normal)) (show 2 ≠ 5 by decide)).trans g4
    have w7 := (Al.get_set_ne M_ (some (.frm 22 [false, true, false, true, true, true] 31 (.c 3 (some (.p 2 0)) (.c 5 (some (.p 3 0)) .l)) false .normal)) (show 3 ≠ 5 by decide)).trans g7
    have w8 : (Al.set M_ 5 (some (.frm 22 [false, true, false, true, true, true] 31 (.c 3 (some (.p 2 0)) (.c 5 (some (.p 3 0)) .l)) false .normal))).get 5 = some (.frm 22 [false, true, false, true, true, true] 31 (.c 3 (some (.p 2 0)) (.c 5 (some (.p 3 0)) .l)) false .normal) := Al.get_set_same _ _ _
    replace h_ : K_ (.exit 0) (hdL (bodyAt Try.prog 79 [false, true, true]) T_ (kills [] (Al.set M_ 5 (some (.frm 22 [false, true, false, true, true, true] 31 (.c 3 (some (.p 2 0)) (.c 5 (some (.p 3 0)) .l)) false .normal)))) 32 6 [(0, .yld 5), (8, .ls false 0 (Ll.len l)), (9, .i .i64 (Ll.len l))] [(0, .list 0 [.int .i64, .int .i64, .int .i64, .int .i64] false l), (2, .row 2 [.i .i64 u])] [(3, .i .i64 (volN l l.length)), (10, .i .i64 (Ll.len l))] [(3, .row 3 [.i .i64 (whI l u)]), (5, .frm 22 [false, true, false, true, true, true] 31 (.c 3 (some (.p 2 0)) (.c 5 (some (.p 3 0)) .l)) false .normal)] [] [] (addW ([] ++ [3, 5]) wr_)) := h_
    obtain ⟨M2_, hM2_⟩ : ∃ M2_, M2_ = (Al.set M_ 5 (some (.frm 22 [false, true, false, true, true, true] 31 (.c 3 (some (.p 2 0)) (.c 5 (some (.p 3 0)) .l)) false .normal))) := ⟨_, rfl⟩
    rw [← hM2_] at h_ hs2_ w3 w4 w7 w8 ⊢
    have hx1 : K_ (.exit 0) (hdL (bodyAt Try.prog 79 [false, true, true]) T_ (kills [] M2_) 32 6 [(0, .yld 5), (8, .ls false 0 (Ll.len l)), (9, .i .i64 (Ll.len l))] [(0, .list 0 [.int .i64, .int .i64, .int .i64, .int .i64] false l), (2, .row 2 [.i .i64 u])] [(3, .i .i64 (volN l l.length)), (10, .i .i64 (Ll.len l))] [(3, .row 3 [.i .i64 (whI l u)]), (5, .frm 22 [false, true, false, true, true, true] 31 (.c 3 (some (.p 2 0)) (.c 5 (some (.p 3 0)) .l)) false .normal)] [] [] (addW ([] ++ [3, 5]) wr_)) := by
      have h2 := h_
      exact h2
    refine loop_ruleL (fs := fsh) (ov := true) (s := ⟨T_, 32, M2_, 6, wr_⟩) (X := Int × Int × Int) (B := [3, 5]) (mv := []) (kt := [(0, .yld 5), (8, .ls false 0 (Ll.len l)), (9, .i .i64 (Ll.len l))]) (kr := [(0, .list 0 [.int .i64, .int .i64, .int .i64, .int .i64] false l), (2, .row 2 [.i .i64 u])]) (ty := []) (x := (i_0, f_0, v_0))
      (Inv := (fun x_ : Int × Int × Int => match x_ with | (i, f, v) => 0 ≤ i ∧ i ≤ l.length ∧ f = volN l i.toNat ∧ v = wAt l u i)) (μ := (fun x_ : Int × Int × Int => match x_ with | (i, f, v) => (20 - i).toNat)) (ts := tsOf [3, 10] []) (sl := (fun x_ : Int × Int × Int => match x_ with | (i, f, v) => [.i .i64 f, .i .i64 i])) (bl := (fun x_ : Int × Int × Int => match x_ with | (i, f, v) => [.row 3 [.i .i64 v], .frm 22 [false, true, false, true, true, true] 31 (.c 3 (some (.p 2 0)) (.c 5 (some (.p 3 0)) .l)) false .normal])) (ll := (fun x_ : Int × Int × Int => match x_ with | (i, f, v) => [])) (Q := fun e_ vs_ os_ hs2_ => K_ e_ (hdL (bodyAt Try.prog 79 [false, true, true]) T_ (kills [] M2_) 32 6 [(0, .yld 5), (8, .ls false 0 (Ll.len l)), (9, .i .i64 (Ll.len l))] [(0, .list 0 [.int .i64, .int .i64, .int .i64, .int .i64] false l), (2, .row 2 [.i .i64 u])] (((tsOf [3, 10] []) e_).zip vs_) ([3, 5].zip os_) [] hs2_ (addW ([] ++ [3, 5]) wr_)))
      (L := LL) (U := 30) (cs := sCall Try.prog 30 (spOf sp0) noLoop 20) (call := CN Try.prog AW m_) (lp := ⟨79, false, noLoop 79⟩) (root := c0_) (p := [false, true, true])
      (show CallSOK _ _ from by
        have := sCall_ok (P := Try.prog) (d := m_ - 20) (U := 30) (lp := noLoop) (sp0_ok (fs := fsh) (ov := true) (d := m_ - 20)) (sp0_aw (fs := fsh) (ov := true)) (noLoop_ok) (by decide) rfl 20
        rwa [show 20 + (m_ - 20) = m_ by omega] at this) (ctx_of (g := 79) (rg := false) (at_ := noLoop 79) (fun p rg f h => by cases h) hfn_ hb_ hro_) (by decide) hc_
      (by
        rintro ⟨i, f, v⟩ o ho
        simp only [List.mem_cons, List.not_mem_nil, or_false] at ho
        rcases ho with rfl | rfl
        · rfl
        · rfl)
      (fun x hx => by
        simp only [List.mem_cons, List.not_mem_nil, or_false] at hx
        rcases hx with rfl | rfl
        · exact ⟨_, w7, rfl⟩
        · exact ⟨_, w8, rfl⟩) (fun x hx => by cases hx) (fun x hx => by
        simp only [List.mem_cons, List.not_mem_nil, or_false] at hx
        rcases hx with rfl | rfl
        · simp
        · simp)
      (fun x hx => by
        simp only [List.mem_cons, List.not_mem_nil, or_false] at hx
        rcases hx with rfl | rfl | rfl
        · exact g0
        · exact g1
        · exact g2) (fun x hx => by
        simp only [List.mem_cons, List.not_mem_nil, or_false] at hx
        rcases hx with rfl | rfl
        · exact ⟨w3, by simp⟩
        · exact ⟨w4, by simp⟩) ?_ (fun _ _ _ _ _ h => h) ?_ ?_ ?_ hs2_
    · rintro ⟨i, f, v⟩ hI
      exact wa_go u l i f v i_0 f_0 v_0 q3 q4 q5 T_ (kills [] M2_) _ q1 q2 hI (fun i' f' v' ha hb => ⟨(i', f', v'), ha, hb, rfl, rfl, rfl⟩) (⟨by simp [SO.mine], hx1⟩)
    · show 0 ≤ i_0 ∧ i_0 ≤ l.length ∧ f_0 = volN l i_0.toNat ∧ v_0 = wAt l u i_0
      have p0 := hole_of q1
      exact ⟨by omega, by omega, by rw [q3, q4]; rfl, by rw [q5, q3]; rfl⟩
    · show (20 - i_0).toNat < LL
      exact Nat.lt_of_le_of_lt (show _ ≤ 1000 by omega) (by decide)
    · exact ⟨⟨[.i .i64 f_0, .i .i64 i_0], [.row 3 [.i .i64 v_0], .frm 22 [false, true, false, true, true, true] 31 (.c 3 (some (.p 2 0)) (.c 5 (some (.p 3 0)) .l)) false .normal], [], [], by simp [gets, tsOf, g0, g1, g2, w3, w4, g5, g6, w7, w8], by simp [gets, g0, g1, g2, w3, w4, g5, g6, w7, w8], rfl, rfl, by simp [listsOf] <;> rfl⟩⟩
  · exact h_.elim
abbrev lpW {A : Go.Rx.Alg} : Nat → Go.Rx.LoopS A := Go.Rx.lpOf [(79, [false, true, true], false, waF)]
theorem lpW_ok {d : Nat} (hd : 100 ≤ d) : LoopsAll (fs := fsh) (ov := true) Try.prog AW d lpW := lpOf_ok fun x hx => by
  simp only [List.mem_cons, List.not_mem_nil, or_false] at hx
  rcases hx with rfl
  · exact waF_ok (by omega)
theorem where_eq (u : Int) (l : Ll) (KK : KS (stdA fsh true)) : sFunc Try.prog 30 (sCall Try.prog 30 (spOf spB) lpW 20) lpW 22 [.agg [.ls false 0 (Ll.len l)], .i .i64 u] (lsMem 0 [([.int .i64, .int .i64, .int .i64, .int .i64], l)]) 1 KK =
  (cond (decide (u < (0 : Int)))
 (KK (.i .i64 (-1 : Int)) (lsMem 0 [([.int .i64, .int .i64, .int .i64, .int .i64], l)]) 1 [])
 ((Ll.len l) = (Ll.len l) ∧ (cond (decide (u > (holeV l)))
 (KK (.i .i64 (-1 : Int)) (lsMem 0 [([.int .i64, .int .i64, .int .i64, .int .i64], l)]) 1 [])
 ((Ll.len l) = (Ll.len l) ∧ (cond (decide ((holeE l) ≠ (0 : Int)))
 (KK (.i .i64 (-1 : Int)) (lsMem 0 [([.int .i64, .int .i64, .int .i64, .int .i64], l)]) 1 [])
 ((Ll.len l) = (Ll.len l) ∧ ((Ll.len l) = (Ll.len l) ∧ ((holeE l) = (0 : Int) ∧ ((0 : Int) ≤ u ∧ ((0 : Int) = (0 : Int) ∧ ((0 : Int) = (0 : Int) ∧ ((-1 : Int) = (-1 : Int) ∧ (KK (.i .i64 (whI l u)) (lsMem 0 [([.int .i64, .int .i64, .int .i64, .int .i64], l)]) 1 []))))))))))))) := by kernel_rfl
theorem where_pure {m : Nat} (hm : 400 ≤ m) {H : Hp} {nx : Nat} (u : Int) {v_l : LV} {l : Ll} (hl_l : IsL H nx [.int .i64, .int .i64, .int .i64, .int .i64] l v_l) : Pure Try.prog AW m 22 [.agg [v_l], .i .i64 u] H nx (.i .i64 (whereI l u)) := by
  obtain ⟨ν, n1, n2, n3, n4⟩ := ls_in (fs := fsh) (ov := true) (l := [([.int .i64, .int .i64, .int .i64, .int .i64], l)]) (lvs := [v_l]) 0 (fun i x lv e1 e2 => by
    cases i with
    | zero => simp at e1 e2; subst e1 e2; exact hl_l
    | succ i =>
      simp at e1) rfl
  refine pure_of (n := 20) (d := m - 21) (U := 30) (fs := fsh) (ov := true) (spB_ok (by omega)) spB_aw (lpW_ok (by omega)) (by decide) (by decide) (by omega) (args := [.agg [.ls false 0 (Ll.len l)], .i .i64 u]) (M := lsMem 0 [([.int .i64, .int .i64, .int .i64, .int .i64], l)]) (snx := 1) ?_ (VSL.cons ⟨_, rfl, (VSL.cons (n4 0 _ _ rfl rfl) rfl)⟩ (VSL.cons rfl rfl)) (hs_in n2 n3)
  rw [where_eq]
  simp only [cond_iff, InK64]
  have hl : Ll.len l = (l.length : Int) := rfl
  have c0 : holeV l = if holeE l = 0 then volN l l.length else 0 := rfl
  have c1 : whereI l u = if holeE l = 0 ∧ 0 ≤ u ∧ u ≤ volN l l.length then whI l u else -1 := rfl
  have c3 : holeE l = 0 → 1 ≤ l.length ∧ l.length ≤ 16 := fun h => (hole_of h).len
  by_cases hz : holeE l = 0
  · have c3 := c3 hz
    rw [if_pos hz] at c0
    repeat' (first | apply And.intro | intro _)
    all_goals first
      | trivial
      | omega
      | (refine end_i ?_; show _ = whereI l u; rw [c1]; split
         all_goals first | rfl | omega)
  · repeat' (first | apply And.intro | intro _)
    all_goals first
      | trivial
      | omega
      | (refine end_i ?_; show _ = whereI l u; rw [c1, if_neg (by omega)])
abbrev whereS {A : Go.Rx.Alg} : List (Go.Rx.SV A) → Go.Rx.SH A → Nat → Go.Rx.KS A → A.R := fun args_ M_ snx_ K_ => match args_ with
  | [.agg [x_l], .i .i64 u] => (match Go.Rx.lsArg M_ [.int .i64, .int .i64, .int .i64, .int .i64] x_l with | some (l, n_l) => (A.need .eql n_l (A.len l) (K_ (.i .i64 (A.app 3 [l] [u])) M_ snx_ [])) | none => A.fail "where")
  | _ => A.fail "where"
theorem whereS_ok {ov : Bool} {d : Nat} (hd : 400 ≤ d) : SpecOK (fs := fsh) (ov := ov) Try.prog AW d 22 whereS := by
  intro m_ hm_ args_ M_ snx_ K_ h_ ν_ largs_ H_ nx_ ha_ hM_
  unfold whereS at h_
  split at h_
  · rename_i x_l u
    obtain ⟨y1, r1, rfl, ⟨l1, rfl, ⟨v_l, r2, rfl, hx_l, rfl⟩⟩, ⟨y3, r3, rfl, rfl, rfl⟩⟩ := ha_
    split at h_
    · rename_i l n_l q_l
      obtain ⟨e_l, h_⟩ := h_
      exact pure_got (where_pure (by omega) u (lsArg_ok hM_ hx_l q_l e_l)) hM_ (v := .i .i64 _) rfl h_
    · exact h_.elim
  · exact h_.elim

theorem rha_eq (i a v : Int) (l g : Ll) (T : Al (SV (stdA fsh true))) (M : Al (SO (stdA fsh true))) (KK : Ex → List (SV (stdA fsh true)) → List (SO (stdA fsh true)) → List Ll → Prop) : sCode Try.prog (sCall Try.prog 30 (spOf sp0) noLoop 20) ⟨21, false, noLoop 21⟩ 30 (false :: [false, true, false, true, true, true, true]) (bodyAt Try.prog 21 [false, true, false, true, true, true, true]) (hdL (bodyAt Try.prog 21 [false, true, false, true, true, true, true]) T M 54 6 [(1, .p 1 0), (3, .p 4 0), (4, .p 5 0)] [(0, .list 0 [.int .i64, .int .i64, .int .i64, .int .i64] false l), (1, .row 24 [.ls false 0 (Ll.len l)])] [(5, .i .i64 i)] [(4, .row 32 [.ls true 6 (Ll.len g)]), (5, .row 68 [.i .i64 a, .i .i64 v])] [(68, [.int .i64, .int .i64])] [g] []) (outL 6 (tsOf [5] []) [4, 5] [3] [(68, [.int .i64, .int .i64])] KK) =
  (cond (decide (i < (Ll.len l)))
 ((0 : Int) ≤ i ∧ (i < (Ll.len l) ∧ (i < (Ll.len l) ∧ ((0 : Int) ≤ i ∧ (i < (Ll.len l) ∧ (i < (Ll.len l) ∧ (InK .i64 ((Ll.get l i 0) * (Ll.get l i 2)) ∧ (InK .i64 (a + ((Ll.get l i 0) * (Ll.get l i 2))) ∧ ((0 : Int) ≤ i ∧ (i < (Ll.len l) ∧ (i < (Ll.len l) ∧ (InK .i64 (v + (Ll.get l i 1)) ∧ ((Ll.len g) = (Ll.len g) ∧ ((Ll.len (g ++ [[(a + ((Ll.get l i 0) * (Ll.get l i 2))), (v + (Ll.get l i 1))]])) ≤ (1000000 : Int) ∧ (InK .i64 (i + (1 : Int)) ∧ (KK .normal [(.i .i64 (i + (1 : Int)))] [(.row 32 [(.ls true 6 (Ll.len (g ++ [[(a + ((Ll.get l i 0) * (Ll.get l i 2))), (v + (Ll.get l i 1))]])))]), (.row 68 [(.i .i64 (a + ((Ll.get l i 0) * (Ll.get l i 2)))), (.i .i64 (v + (Ll.get l i 1)))])] [(g ++ [[(a + ((Ll.get l i 0) * (Ll.get l i 2))), (v + (Ll.get l i 1))]])]))))))))))))))))
 (KK (.exit 0) [(.i .i64 i)] [(.row 32 [(.ls true 6 (Ll.len g))]), (.row 68 [(.i .i64 a), (.i .i64 v)])] [g])) := by kernel_rfl
theorem rha_go (l : Ll) (i : Int) (a : Int) (v : Int) (g : Ll) (i_0 : Int) (a_0 : Int) (v_0 : Int) (r1 : i_0 = (0 : Int)) (r2 : a_0 = (0 : Int)) (r3 : v_0 = (0 : Int)) (T : Al (SV (stdA fsh true))) (M : Al (SO (stdA fsh true))) (KK : Ex → List (SV (stdA fsh true)) → List (SO (stdA fsh true)) → List Ll → Prop) (p1 : (holeE l) = (0 : Int)) (hI : 0 ≤ i ∧ i ≤ l.length ∧ a = volN l i.toNat ∧ v = risN l i.toNat ∧ g = hgtP l i.toNat) (hn : ∀ (i' : Int) (a' : Int) (v' : Int) (g' : Ll), 0 ≤ i' ∧ i' ≤ l.length ∧ a' = volN l i'.toNat ∧ v' = risN l i'.toNat ∧ g' = hgtP l i'.toNat → (20 - i').toNat < (20 - i).toNat → KK .normal [.i .i64 i'] [.row 32 [.ls true 6 (Ll.len g')], .row 68 [.i .i64 a', .i .i64 v']] [g']) (hx1 : KK (.exit 0) [.i .i64 (Ll.len l)] [.row 32 [.ls true 6 (Ll.len (hgtP l l.length))], .row 68 [.i .i64 (volN l l.length), .i .i64 (risN l l.length)]] [(hgtP l l.length)]) :
    sCode Try.prog (sCall Try.prog 30 (spOf sp0) noLoop 20) ⟨21, false, noLoop 21⟩ 30 (false :: [false, true, false, true, true, true, true]) (bodyAt Try.prog 21 [false, true, false, true, true, true, true]) (hdL (bodyAt Try.prog 21 [false, true, false, true, true, true, true]) T M 54 6 [(1, .p 1 0), (3, .p 4 0), (4, .p 5 0)] [(0, .list 0 [.int .i64, .int .i64, .int .i64, .int .i64] false l), (1, .row 24 [.ls false 0 (Ll.len l)])] [(5, .i .i64 i)] [(4, .row 32 [.ls true 6 (Ll.len g)]), (5, .row 68 [.i .i64 a, .i .i64 v])] [(68, [.int .i64, .int .i64])] [g] []) (outL 6 (tsOf [5] []) [4, 5] [3] [(68, [.int .i64, .int .i64])] KK) := by
  refine Eq.mpr (rha_eq i a v l g T M KK) ?_
  simp only [cond_iff, InK64]
  obtain ⟨i0, i1, rfl, rfl, rfl⟩ := hI
  have hl : Ll.len l = (l.length : Int) := rfl
  have p0 : HoleOK l := hole_of p1
  have hlen := p0.len
  by_cases h : i < Ll.len l
  · have ha := p0.at i0 (by omega)
    have hb := p0.b (n := i.toNat) (by omega)
    have hm := mul_bd (show 0 ≤ Ll.get l i 0 by omega) ha.1.2 (show 0 ≤ Ll.get l i 2 by omega) ha.2.2.2.2.1
    have e := volN_succ (l := l) i0
    have e3 := risN_succ (l := l) i0
    have e1 : (i + 1).toNat = i.toNat + 1 := by omega
    have e2 : hgtP l (i + 1).toNat = hgtP l i.toNat ++ [[volN l i.toNat + Ll.get l i 0 * Ll.get l i 2, risN l i.toNat + Ll.get l i 1]] := by rw [e1, hgtP, e, e3]
    have e4 : Ll.len (hgtP l i.toNat ++ [[volN l i.toNat + Ll.get l i 0 * Ll.get l i 2, risN l i.toNat + Ll.get l i 1]]) ≤ 1000000 := by
      rw [← e2]; show ((List.length _ : Nat) : Int) ≤ 1000000; rw [hgtP_len]; omega
    have hN := hn (i + 1) _ _ _ ⟨by omega, by omega, by rw [e1, e], by rw [e1, e3], rfl⟩ (by omega)
    rw [e2] at hN
    generalize Ll.get l i 0 * Ll.get l i 2 = m at *
    repeat' (first | apply And.intro | intro _)
    all_goals first | trivial | omega | exact e4 | exact hN
  · obtain rfl : i = l.length := by omega
    rw [Int.toNat_natCast]
    repeat' (first | apply And.intro | intro _)
    all_goals first | trivial | omega | exact hx1
theorem rha0_eq (i a v : Int) (l : Ll) (T : Al (SV (stdA fsh true))) (M : Al (SO (stdA fsh true))) (KK : Ex → List (SV (stdA fsh true)) → List (SO (stdA fsh true)) → List Ll → Prop) : sCode Try.prog (sCall Try.prog 30 (spOf sp0) noLoop 20) ⟨21, false, noLoop 21⟩ 30 (false :: [false, true, false, true, true, true, true]) (bodyAt Try.prog 21 [false, true, false, true, true, true, true]) ⟨push [(1, .p 1 0), (3, .p 4 0), (4, .p 5 0), (5, .i .i64 i)] T, 54, push [(0, .list 0 [.int .i64, .int .i64, .int .i64, .int .i64] false l), (1, .row 24 [.ls false 0 (Ll.len l)]), (4, .row 32 [.sl 3 0 1 1]), (5, .row 68 [.i .i64 a, .i .i64 v]), (3, .row 68 [.i .i64 (0 : Int), .i .i64 (0 : Int)])] M, 6, []⟩ (outL 6 (tsOf [5] []) [4, 5] [3] [(68, [.int .i64, .int .i64])] KK) =
  (cond (decide (i < (Ll.len l)))
 ((0 : Int) ≤ i ∧ (i < (Ll.len l) ∧ (i < (Ll.len l) ∧ ((0 : Int) ≤ i ∧ (i < (Ll.len l) ∧ (i < (Ll.len l) ∧ (InK .i64 ((Ll.get l i 0) * (Ll.get l i 2)) ∧ (InK .i64 (a + ((Ll.get l i 0) * (Ll.get l i 2))) ∧ ((0 : Int) ≤ i ∧ (i < (Ll.len l) ∧ (i < (Ll.len l) ∧ (InK .i64 (v + (Ll.get l i 1)) ∧ ((Ll.len ([[(0 : Int), (0 : Int)]] ++ [[(a + ((Ll.get l i 0) * (Ll.get l i 2))), (v + (Ll.get l i 1))]])) ≤ (1000000 : Int) ∧ (InK .i64 (i + (1 : Int)) ∧ (KK .normal [(.i .i64 (i + (1 : Int)))] [(.row 32 [(.ls true 6 (Ll.len ([[(0 : Int), (0 : Int)]] ++ [[(a + ((Ll.get l i 0) * (Ll.get l i 2))), (v + (Ll.get l i 1))]])))]), (.row 68 [(.i .i64 (a + ((Ll.get l i 0) * (Ll.get l i 2)))), (.i .i64 (v + (Ll.get l i 1)))])] [([[(0 : Int), (0 : Int)]] ++ [[(a + ((Ll.get l i 0) * (Ll.get l i 2))), (v + (Ll.get l i 1))]])])))))))))))))))
 False) := by kernel_rfl
theorem rha_go0 (l : Ll) (i_0 : Int) (a_0 : Int) (v_0 : Int) (T : Al (SV (stdA fsh true))) (M : Al (SO (stdA fsh true))) (KK : Ex → List (SV (stdA fsh true)) → List (SO (stdA fsh true)) → List Ll → Prop) (p1 : (holeE l) = (0 : Int)) (p2 : i_0 = (0 : Int)) (p3 : a_0 = (0 : Int)) (p4 : v_0 = (0 : Int)) (hn : ∀ (i' : Int) (a' : Int) (v' : Int) (g' : Ll), 0 ≤ i' ∧ i' ≤ l.length ∧ a' = volN l i'.toNat ∧ v' = risN l i'.toNat ∧ g' = hgtP l i'.toNat → (20 - i').toNat < 5000 → KK .normal [.i .i64 i'] [.row 32 [.ls true 6 (Ll.len g')], .row 68 [.i .i64 a', .i .i64 v']] [g']) (hx1 : KK (.exit 0) [.i .i64 (Ll.len l)] [.row 32 [.ls true 6 (Ll.len (hgtP l l.length))], .row 68 [.i .i64 (volN l l.length), .i .i64 (risN l l.length)]] [(hgtP l l.length)]) :
    sCode Try.prog (sCall Try.prog 30 (spOf sp0) noLoop 20) ⟨21, false, noLoop 21⟩ 30 (false :: [false, true, false, true, true, true, true]) (bodyAt Try.prog 21 [false, true, false, true, true, true, true]) ⟨push [(1, .p 1 0), (3, .p 4 0), (4, .p 5 0), (5, .i .i64 i_0)] T, 54, push [(0, .list 0 [.int .i64, .int .i64, .int .i64, .int .i64] false l), (1, .row 24 [.ls false 0 (Ll.len l)]), (4, .row 32 [.sl 3 0 1 1]), (5, .row 68 [.i .i64 a_0, .i .i64 v_0]), (3, .row 68 [.i .i64 (0 : Int), .i .i64 (0 : Int)])] M, 6, []⟩ (outL 6 (tsOf [5] []) [4, 5] [3] [(68, [.int .i64, .int .i64])] KK) := by
  refine Eq.mpr (rha0_eq i_0 a_0 v_0 l T M KK) ?_
  simp only [cond_iff, InK64]
  obtain rfl := p2
  obtain rfl := p3
  obtain rfl := p4
  have i0 : (0 : Int) ≤ 0 := Int.le_refl _
  have hl : Ll.len l = (l.length : Int) := rfl
  have p0 : HoleOK l := hole_of p1
  have hlen := p0.len
  have hlt : (0 : Int) < Ll.len l := by omega
  have ha := p0.at i0 (by omega)
  have hm := mul_bd (show 0 ≤ Ll.get l 0 0 by omega) ha.1.2 (show 0 ≤ Ll.get l 0 2 by omega) ha.2.2.2.2.1
  have h1 : volN l 1 = Ll.get l 0 0 * Ll.get l 0 2 := by simp [volN]
  have h2 : risN l 1 = Ll.get l 0 1 := by simp [risN]
  have h3 : hgtP l (1 : Int).toNat = [[0, 0]] ++ [[Ll.get l 0 0 * Ll.get l 0 2, Ll.get l 0 1]] := by
    show [[0, 0]] ++ [[volN l 1, risN l 1]] = _
    rw [h1, h2]
  have hN := hn 1 (Ll.get l 0 0 * Ll.get l 0 2) (Ll.get l 0 1) ([[0, 0]] ++ [[Ll.get l 0 0 * Ll.get l 0 2, Ll.get l 0 1]]) ⟨by omega, by omega, h1.symm, h2.symm, h3.symm⟩ (by decide)
  simp only [Int.zero_add]
  generalize Ll.get l 0 0 * Ll.get l 0 2 = m at *
  repeat' (first | apply And.intro | intro _)
  all_goals first | exact hN | omega | (show ((2 : Nat) : Int) ≤ 1000000; omega) | trivial
abbrev rhaF {A : Go.Rx.Alg} : Code → Go.Rx.SS A → (Go.Rx.Ex → Go.Rx.SS A → A.R) → A.R := fun c_ s_ K_ => match s_.T.get 1, s_.T.get 3, s_.T.get 4, s_.H.get 0, s_.H.get 1, s_.T.get 5, s_.H.get 4, s_.H.get 5, s_.H.get 3 with
  | some (.p 1 0), some (.p 4 0), some (.p 5 0), some (.list t1 k1 false l), some (.row t2 [.ls false 0 m3]), some (.i .i64 i), some (.row t4 [.sl 3 0 1 1]), some (.row t5 [.i .i64 a, .i .i64 v]), some (.row t6 [.i .i64 m7, .i .i64 m8]) => bif (((((((Nat.beq s_.N 54 && Nat.beq s_.nx 6) && Nat.beq t1 0) && decide (k1 = [.int .i64, .int .i64, .int .i64, .int .i64])) && Nat.beq t2 24) && Nat.beq t4 32) && Nat.beq t5 68) && Nat.beq t6 68) then (A.need .eql m3 (A.len l) (A.need .eql m7 (A.lit 0) (A.need .eql m8 (A.lit 0) (A.need .eql (A.app 1 [l] []) (A.lit 0) (A.need .eql i (A.lit 0) (A.need .eql a (A.lit 0) (A.need .eql v (A.lit 0) (K_ (.exit 0) (Go.Rx.hdL c_ s_.T (Go.Rx.kills [3] s_.H) 54 6 [(1, .p 1 0), (3, .p 4 0), (4, .p 5 0)] [(0, .list 0 [.int .i64, .int .i64, .int .i64, .int .i64] false l), (1, .row 24 [.ls false 0 (A.len l)])] [(5, .i .i64 (A.len l))] [(4, .row 32 [.ls true 6 (A.len (A.appL 51 [l] []))]), (5, .row 68 [.i .i64 (A.app 8 [l] []), .i .i64 (A.app 10 [l] [])])] [(68, [.int .i64, .int .i64])] [(A.appL 51 [l] [])] (Go.Rx.addW ([3] ++ [4, 5]) s_.wr)))))))))) else A.fail "frame of rha"
  | _, _, _, _, _, _, _, _, _ => A.fail "rha"
theorem rhaF_ok {d : Nat} (hd : 100 ≤ d) : LoopOK (fs := fsh) (ov := true) Try.prog AW d 21 [false, true, false, true, true, true, true] false rhaF := by
  intro m_ hm_ fn_ c0_ hfn_ hb_ c_ ro_ hro_ hc_ s_ K_ W_ ν_ S_ h_ hs_
  obtain rfl := body_of hfn_ hb_ hc_
  unfold rhaF at h_
  split at h_
  · rename_i t1 k1 l_0 t2 m3_0 i_0_0 t4 t5 a_0_0 v_0_0 t6 m7_0 m8_0 g0 g1 g2 g3 g4 g5 g6 g7 g8
    obtain ⟨l, rfl⟩ : ∃ q : Ll, q = l_0 := ⟨l_0, rfl⟩
    obtain ⟨m3, rfl⟩ : ∃ q : Int, q = m3_0 := ⟨m3_0, rfl⟩
    obtain ⟨i_0, rfl⟩ : ∃ q : Int, q = i_0_0 := ⟨i_0_0, rfl⟩
    obtain ⟨a_0, rfl⟩ : ∃ q : Int, q = a_0_0 := ⟨a_0_0, rfl⟩
    obtain ⟨v_0, rfl⟩ : ∃ q : Int, q = v_0_0 := ⟨v_0_0, rfl⟩
    obtain ⟨m7, rfl⟩ : ∃ q : Int, q = m7_0 := ⟨m7_0, rfl⟩
    obtain ⟨m8, rfl⟩ : ∃ q : Int, q = m8_0 := ⟨m8_0, rfl⟩
    obtain ⟨T_, FN_, M_, snx_, wr_⟩ := s_
    have hN : (((((((Nat.beq FN_ 54 && Nat.beq snx_ 6) && Nat.beq t1 0) && decide (k1 = [.int .i64, .int .i64, .int .i64, .int .i64])) && Nat.beq t2 24) && Nat.beq t4 32) && Nat.beq t5 68) && Nat.beq t6 68) = true := by
      cases hq : ((((((((Nat.beq FN_ 54 && Nat.beq snx_ 6) && Nat.beq t1 0) && decide (k1 = [.int .i64, .int .i64, .int .i64, .int .i64])) && Nat.beq t2 24) && Nat.beq t4 32) && Nat.beq t5 68) && Nat.beq t6 68) : Bool) with
      | true => rfl
      | false => (rw [hq] at h_; exact h_.elim)
    rw [hN, cond_true] at h_
    simp only [Bool.and_eq_true, beq_iff, decide_eq_true_eq] at hN
    obtain ⟨⟨⟨⟨⟨⟨⟨rfl, rfl⟩, rfl⟩, rfl⟩, rfl⟩, rfl⟩, rfl⟩, rfl⟩ := hN
    obtain ⟨q0, h_⟩ := h_
    obtain rfl : m3 = (Ll.len l) := q0
    obtain ⟨q0, h_⟩ := h_
    obtain rfl : m7 = (0 : Int) := q0
    obtain ⟨q0, h_⟩ := h_
    obtain rfl : m8 = (0 : Int) := q0
    obtain ⟨q1, h_⟩ := h_
    have q1 : (holeE l) = (0 : Int) := q1
    obtain ⟨q2, h_⟩ := h_
    have q2 : i_0 = (0 : Int) := q2
    obtain ⟨q3, h_⟩ := h_
    have q3 : a_0 = (0 : Int) := q3
    obtain ⟨q4, h_⟩ := h_
    have q4 : v_0 = (0 : Int) := q4
    replace h_ : K_ (.exit 0) (hdL (bodyAt Try.prog 21 [false, true, false, true, true, true, true]) T_ (kills [3] M_) 54 6 [(1, .p 1 0), (3, .p 4 0), (4, .p 5 0)] [(0, .list 0 [.int .i64, .int .i64, .int .i64, .int .i64] false l), (1, .row 24 [.ls false 0 (Ll.len l)])] [(5, .i .i64 (Ll.len l))] [(4, .row 32 [.ls true 6 (Ll.len (hgtP l l.length))]), (5, .row 68 [.i .i64 (volN l l.length), .i .i64 (risN l l.length)])] [(68, [.int .i64, .int .i64])] [(hgtP l l.length)] (addW ([3] ++ [4, 5]) wr_)) := h_
    have hx1 : K_ (.exit 0) (hdL (bodyAt Try.prog 21 [false, true, false, true, true, true, true]) T_ (kills [3] M_) 54 6 [(1, .p 1 0), (3, .p 4 0), (4, .p 5 0)] [(0, .list 0 [.int .i64, .int .i64, .int .i64, .int .i64] false l), (1, .row 24 [.ls false 0 (Ll.len l)])] [(5, .i .i64 (Ll.len l))] [(4, .row 32 [.ls true 6 (Ll.len (hgtP l l.length))]), (5, .row 68 [.i .i64 (volN l l.length), .i .i64 (risN l l.length)])] [(68, [.int .i64, .int .i64])] [(hgtP l l.length)] (addW ([3] ++ [4, 5]) wr_)) := by
      have h2 := h_
      exact h2
    refine loop_ruleF (fs := fsh) (ov := true) (s := ⟨T_, 54, M_, 6, wr_⟩) (X := Int × Int × Int × Ll) (B := [4, 5]) (mv := [3]) (kt := [(1, .p 1 0), (3, .p 4 0), (4, .p 5 0)]) (kr := [(0, .list 0 [.int .i64, .int .i64, .int .i64, .int .i64] false l), (1, .row 24 [.ls false 0 (Ll.len l)])]) (kt0 := [(1, .p 1 0), (3, .p 4 0), (4, .p 5 0), (5, .i .i64 i_0)]) (kr0 := [(0, .list 0 [.int .i64, .int .i64, .int .i64, .int .i64] false l), (1, .row 24 [.ls false 0 (Ll.len l)]), (4, .row 32 [.sl 3 0 1 1]), (5, .row 68 [.i .i64 a_0, .i .i64 v_0]), (3, .row 68 [.i .i64 (0 : Int), .i .i64 (0 : Int)])]) (ty := [(68, [.int .i64, .int .i64])]) (m := 5000)
      (Inv := (fun x_ : Int × Int × Int × Ll => match x_ with | (i, a, v, g) => 0 ≤ i ∧ i ≤ l.length ∧ a = volN l i.toNat ∧ v = risN l i.toNat ∧ g = hgtP l i.toNat)) (μ := (fun x_ : Int × Int × Int × Ll => match x_ with | (i, a, v, g) => (20 - i).toNat)) (ts := tsOf [5] []) (sl := (fun x_ : Int × Int × Int × Ll => match x_ with | (i, a, v, g) => [.i .i64 i])) (bl := (fun x_ : Int × Int × Int × Ll => match x_ with | (i, a, v, g) => [.row 32 [.ls true 6 (Ll.len g)], .row 68 [.i .i64 a, .i .i64 v]])) (ll := (fun x_ : Int × Int × Int × Ll => match x_ with | (i, a, v, g) => [g])) (Q := fun e_ vs_ os_ hs_ => K_ e_ (hdL (bodyAt Try.prog 21 [false, true, false, true, true, true, true]) T_ (kills [3] M_) 54 6 [(1, .p 1 0), (3, .p 4 0), (4, .p 5 0)] [(0, .list 0 [.int .i64, .int .i64, .int .i64, .int .i64] false l), (1, .row 24 [.ls false 0 (Ll.len l)])] (((tsOf [5] []) e_).zip vs_) ([4, 5].zip os_) [(68, [.int .i64, .int .i64])] hs_ (addW ([3] ++ [4, 5]) wr_)))
      (L := LL) (U := 30) (cs := sCall Try.prog 30 (spOf sp0) noLoop 20) (call := CN Try.prog AW m_) (lp := ⟨21, false, noLoop 21⟩) (root := c0_) (p := [false, true, false, true, true, true, true])
      (show CallSOK _ _ from by
        have := sCall_ok (P := Try.prog) (d := m_ - 20) (U := 30) (lp := noLoop) (sp0_ok (fs := fsh) (ov := true) (d := m_ - 20)) (sp0_aw (fs := fsh) (ov := true)) (noLoop_ok) (by decide) rfl 20
        rwa [show 20 + (m_ - 20) = m_ by omega] at this) (ctx_of (g := 21) (rg := false) (at_ := noLoop 21) (fun p rg f h => by cases h) hfn_ hb_ hro_) (by decide) hc_
      (by
        rintro ⟨i, a, v, g⟩ o ho
        simp only [List.mem_cons, List.not_mem_nil, or_false] at ho
        rcases ho with rfl | rfl
        · rfl
        · rfl)
      (fun x hx => by
        simp only [List.mem_cons, List.not_mem_nil, or_false] at hx
        rcases hx with rfl | rfl
        · exact ⟨_, g6, rfl⟩
        · exact ⟨_, g7, rfl⟩) (fun x hx => by
        simp only [List.mem_cons, List.not_mem_nil, or_false] at hx
        rcases hx with rfl
        · exact ⟨_, g8, rfl⟩) (fun x hx => by
        simp only [List.mem_cons, List.not_mem_nil, or_false] at hx
        rcases hx with rfl | rfl
        · simp
        · simp)
      (fun x hx => by
        simp only [List.mem_cons, List.not_mem_nil, or_false] at hx
        rcases hx with rfl | rfl | rfl
        · exact g0
        · exact g1
        · exact g2) (fun x hx => by
        simp only [List.mem_cons, List.not_mem_nil, or_false] at hx
        rcases hx with rfl | rfl
        · exact ⟨g3, by simp⟩
        · exact ⟨g4, by simp⟩) ?_ (fun _ _ _ _ _ h => h) (by decide) (fun x hx => by
        simp only [List.mem_cons, List.not_mem_nil, or_false] at hx
        rcases hx with rfl | rfl | rfl | rfl
        · exact g0
        · exact g1
        · exact g2
        · exact g5) (fun x hx => by
        simp only [List.mem_cons, List.not_mem_nil, or_false] at hx
        rcases hx with rfl | rfl | rfl | rfl | rfl
        · exact g3
        · exact g4
        · exact g6
        · exact g7
        · exact g8) ?_ hs_
    · rintro ⟨i, a, v, g⟩ hI
      exact rha_go l i a v g i_0 a_0 v_0 q2 q3 q4 T_ (kills [3] M_) _ q1 hI (fun i' a' v' g' ha hb => ⟨(i', a', v', g'), ha, hb, rfl, rfl, rfl⟩) (⟨by simp [SO.mine], hx1⟩)
    · exact rha_go0 l i_0 a_0 v_0 T_ M_ _ q1 q2 q3 q4 (fun i' a' v' g' ha hb => ⟨(i', a', v', g'), ha, hb, rfl, rfl, rfl⟩) (⟨by simp [SO.mine], hx1⟩)
  · exact h_.elim

abbrev lpRH {A : Go.Rx.Alg} : Nat → Go.Rx.LoopS A := Go.Rx.lpOf [(21, [false, true, false, true, true, true, true], false, rhaF)]
theorem lpRH_ok {d : Nat} (hd : 100 ≤ d) : LoopsAll (fs := fsh) (ov := true) Try.prog AW d lpRH := lpOf_ok fun x hx => by
  simp only [List.mem_cons, List.not_mem_nil, or_false] at hx
  rcases hx with rfl
  · exact rhaF_ok (by omega)
theorem rheight_eq (l : Ll) (KK : KS (stdA fsh true)) : sFunc Try.prog 30 (sCall Try.prog 30 (spOf spB) lpRH 20) lpRH 21 [.agg [.ls false 0 (Ll.len l)]] (lsMem 0 [([.int .i64, .int .i64, .int .i64, .int .i64], l)]) 1 KK =
  ((Ll.len l) = (Ll.len l) ∧ (cond (decide ((holeE l) ≠ (0 : Int)))
 (KK (.agg [.nils]) (lsMem 0 [([.int .i64, .int .i64, .int .i64, .int .i64], l)]) 1 [])
 ((Ll.len l) = (Ll.len l) ∧ ((0 : Int) = (0 : Int) ∧ ((0 : Int) = (0 : Int) ∧ ((holeE l) = (0 : Int) ∧ ((0 : Int) = (0 : Int) ∧ ((0 : Int) = (0 : Int) ∧ ((0 : Int) = (0 : Int) ∧ ((Ll.len (hgtP l l.length)) = (Ll.len (hgtP l l.length)) ∧ (KK (.agg [(.ls true 1 (Ll.len (hgtP l l.length)))]) (Al.set (lsMem 0 [([.int .i64, .int .i64, .int .i64, .int .i64], l)]) 1 (some (.list 68 [.int .i64, .int .i64] true (hgtP l l.length)))) 2 []))))))))))) := by kernel_rfl
theorem rheight_gives {m : Nat} (hm : 400 ≤ m) {H : Hp} {nx : Nat} {v_l : LV} {l : Ll} (hl_l : IsL H nx [.int .i64, .int .i64, .int .i64, .int .i64] l v_l) : Gives Try.prog AW m 21 [.agg [v_l]] H nx true 68 [.int .i64, .int .i64] (hgtL l) := by
  obtain ⟨ν, n1, n2, n3, n4⟩ := ls_in (fs := fsh) (ov := true) (l := [([.int .i64, .int .i64, .int .i64, .int .i64], l)]) (lvs := [v_l]) 0 (fun i x lv e1 e2 => by
    cases i with
    | zero => simp at e1 e2; subst e1 e2; exact hl_l
    | succ i =>
      simp at e1) rfl
  refine gives_of (n := 20) (d := m - 21) (U := 30) (fs := fsh) (ov := true) (spB_ok (by omega)) spB_aw (lpRH_ok (by omega)) (by decide) (by decide) (by omega) (args := [.agg [.ls false 0 (Ll.len l)]]) (M := lsMem 0 [([.int .i64, .int .i64, .int .i64, .int .i64], l)]) (snx := 1) ?_ ?_ (VSL.cons ⟨_, rfl, (VSL.cons (n4 0 _ _ rfl rfl) rfl)⟩ rfl) (hs_in n2 n3)
  rw [rheight_eq]
  · simp only [cond_iff, InK64]
    have hl : Ll.len l = (l.length : Int) := rfl
    have c0 : hgtL l = if holeE l = 0 then hgtP l l.length else [] := rfl
    by_cases hz : holeE l = 0
    · rw [if_pos hz] at c0
      repeat' (first | exact end_l (w := true) c0.symm | exact end_nil (w := true) (by omega) | apply And.intro | intro _)
      all_goals first
        | trivial
        | omega
    · rw [if_neg hz] at c0
      repeat' (first | exact end_nil (w := true) c0 | apply And.intro | intro _)
      all_goals first
        | trivial
        | omega
  · show ∀ x ∈ hgtL l, x.length = 2
    intro x hx
    unfold hgtL at hx
    split at hx
    · exact hgtP_rows l _ x hx
    · cases hx
abbrev rheightS {A : Go.Rx.Alg} : List (Go.Rx.SV A) → Go.Rx.SH A → Nat → Go.Rx.KS A → A.R := fun args_ M_ snx_ K_ => match args_ with
  | [.agg [x_l]] => (match Go.Rx.lsArg M_ [.int .i64, .int .i64, .int .i64, .int .i64] x_l with | some (l, n_l) => (A.need .eql n_l (A.len l) ((M_.set snx_ (some (.list 68 [.int .i64, .int .i64] true (A.appL 50 [l] [])))).force fun M_ => K_ (.agg [.ls true snx_ (A.len (A.appL 50 [l] []))]) M_ (snx_ + 1) [])) | none => A.fail "rheight")
  | _ => A.fail "rheight"
theorem rheightS_ok {ov : Bool} {d : Nat} (hd : 400 ≤ d) : SpecOK (fs := fsh) (ov := ov) Try.prog AW d 21 rheightS := by
  intro m_ hm_ args_ M_ snx_ K_ h_ ν_ largs_ H_ nx_ ha_ hM_
  unfold rheightS at h_
  split at h_
  · rename_i x_l
    obtain ⟨y1, r1, rfl, ⟨l1, rfl, ⟨v_l, r2, rfl, hx_l, rfl⟩⟩, rfl⟩ := ha_
    split at h_
    · rename_i l n_l q_l
      obtain ⟨e_l, h_⟩ := h_
      exact gives_got (rheight_gives (by omega) (lsArg_ok hM_ hx_l q_l e_l)) hM_ h_
    · exact h_.elim
  · exact h_.elim

theorem ha_eq (i f v : Int) (l g : Ll) (T : Al (SV (stdA fsh true))) (M : Al (SO (stdA fsh true))) (KK : Ex → List (SV (stdA fsh true)) → List (SO (stdA fsh true)) → List Ll → Prop) : sCode Try.prog (sCall Try.prog 30 (spOf sp0) noLoop 20) ⟨79, false, noLoop 79⟩ 30 (false :: [false, true, true]) (bodyAt Try.prog 79 [false, true, true]) (hdL (bodyAt Try.prog 79 [false, true, true]) T M 32 8 [(0, .yld 7), (8, .ls false 0 (Ll.len l)), (9, .i .i64 (Ll.len l))] [(0, .list 0 [.int .i64, .int .i64, .int .i64, .int .i64] false l)] [(3, .i .i64 f), (10, .i .i64 i)] [(4, .row 32 [.ls true 8 (Ll.len g)]), (5, .row 2 [.i .i64 v]), (7, .frm 20 [false, true, false, true, true, true, true] 33 (.c 3 (some (.p 4 0)) (.c 4 (some (.p 5 0)) .l)) false .normal)] [(68, [.int .i64, .int .i64])] [g] []) (outL 8 (tsOf [3, 10] []) [4, 5, 7] [3] [(68, [.int .i64, .int .i64])] KK) =
  (cond (decide (i < (Ll.len l)))
 ((0 : Int) ≤ i ∧ (i < (Ll.len l) ∧ (i < (Ll.len l) ∧ (InK .i64 ((Ll.get l i 0) * (Ll.get l i 2)) ∧ (InK .i64 (f + ((Ll.get l i 0) * (Ll.get l i 2))) ∧ (InK .i64 (v + (Ll.get l i 1)) ∧ ((Ll.len g) = (Ll.len g) ∧ ((Ll.len (g ++ [[(f + ((Ll.get l i 0) * (Ll.get l i 2))), (v + (Ll.get l i 1))]])) ≤ (1000000 : Int) ∧ (InK .i64 (i + (1 : Int)) ∧ (KK .normal [(.i .i64 (f + ((Ll.get l i 0) * (Ll.get l i 2)))), (.i .i64 (i + (1 : Int)))] [(.row 32 [(.ls true 8 (Ll.len (g ++ [[(f + ((Ll.get l i 0) * (Ll.get l i 2))), (v + (Ll.get l i 1))]])))]), (.row 2 [(.i .i64 (v + (Ll.get l i 1)))]), (.frm 20 [false, true, false, true, true, true, true] 33 (.c 3 (some (.p 4 0)) (.c 4 (some (.p 5 0)) .l)) false .normal)] [(g ++ [[(f + ((Ll.get l i 0) * (Ll.get l i 2))), (v + (Ll.get l i 1))]])]))))))))))
 (KK (.exit 0) [(.i .i64 f), (.i .i64 i)] [(.row 32 [(.ls true 8 (Ll.len g))]), (.row 2 [(.i .i64 v)]), (.frm 20 [false, true, false, true, true, true, true] 33 (.c 3 (some (.p 4 0)) (.c 4 (some (.p 5 0)) .l)) false .normal)] [g])) := by kernel_rfl
theorem ha_go (l : Ll) (i : Int) (f : Int) (v : Int) (g : Ll) (i_0 : Int) (f_0 : Int) (v_0 : Int) (r1 : i_0 = (0 : Int)) (r2 : f_0 = (0 : Int)) (r3 : v_0 = (0 : Int)) (T : Al (SV (stdA fsh true))) (M : Al (SO (stdA fsh true))) (KK : Ex → List (SV (stdA fsh true)) → List (SO (stdA fsh true)) → List Ll → Prop) (p1 : (holeE l) = (0 : Int)) (hI : 0 ≤ i ∧ i ≤ l.length ∧ f = volN l i.toNat ∧ v = risN l i.toNat ∧ g = hgtP l i.toNat) (hn : ∀ (i' : Int) (f' : Int) (v' : Int) (g' : Ll), 0 ≤ i' ∧ i' ≤ l.length ∧ f' = volN l i'.toNat ∧ v' = risN l i'.toNat ∧ g' = hgtP l i'.toNat → (20 - i').toNat < (20 - i).toNat → KK .normal [.i .i64 f', .i .i64 i'] [.row 32 [.ls true 8 (Ll.len g')], .row 2 [.i .i64 v'], .frm 20 [false, true, false, true, true, true, true] 33 (.c 3 (some (.p 4 0)) (.c 4 (some (.p 5 0)) .l)) false .normal] [g']) (hx1 : KK (.exit 0) [.i .i64 (volN l l.length), .i .i64 (Ll.len l)] [.row 32 [.ls true 8 (Ll.len (hgtP l l.length))], .row 2 [.i .i64 (risN l l.length)], .frm 20 [false, true, false, true, true, true, true] 33 (.c 3 (some (.p 4 0)) (.c 4 (some (.p 5 0)) .l)) false .normal] [(hgtP l l.length)]) :
    sCode Try.prog (sCall Try.prog 30 (spOf sp0) noLoop 20) ⟨79, false, noLoop 79⟩ 30 (false :: [false, true, true]) (bodyAt Try.prog 79 [false, true, true]) (hdL (bodyAt Try.prog 79 [false, true, true]) T M 32 8 [(0, .yld 7), (8, .ls false 0 (Ll.len l)), (9, .i .i64 (Ll.len l))] [(0, .list 0 [.int .i64, .int .i64, .int .i64, .int .i64] false l)] [(3, .i .i64 f), (10, .i .i64 i)] [(4, .row 32 [.ls true 8 (Ll.len g)]), (5, .row 2 [.i .i64 v]), (7, .frm 20 [false, true, false, true, true, true, true] 33 (.c 3 (some (.p 4 0)) (.c 4 (some (.p 5 0)) .l)) false .normal)] [(68, [.int .i64, .int .i64])] [g] []) (outL 8 (tsOf [3, 10] []) [4, 5, 7] [3] [(68, [.int .i64, .int .i64])] KK) := by
  refine Eq.mpr (ha_eq i f v l g T M KK) ?_
  simp only [cond_iff, InK64]
  obtain ⟨i0, i1, rfl, rfl, rfl⟩ := hI
  have hl : Ll.len l = (l.length : Int) := rfl
  have p0 : HoleOK l := hole_of p1
  have hlen := p0.len
  by_cases h : i < Ll.len l
  · have ha := p0.at i0 (by omega)
    have hb := p0.b (n := i.toNat) (by omega)
    have hm := mul_bd (show 0 ≤ Ll.get l i 0 by omega) ha.1.2 (show 0 ≤ Ll.get l i 2 by omega) ha.2.2.2.2.1
    have e := volN_succ (l := l) i0
    have e3 := risN_succ (l := l) i0
    have e1 : (i + 1).toNat = i.toNat + 1 := by omega
    have e2 : hgtP l (i + 1).toNat = hgtP l i.toNat ++ [[volN l i.toNat + Ll.get l i 0 * Ll.get l i 2, risN l i.toNat + Ll.get l i 1]] := by rw [e1, hgtP, e, e3]
    have e4 : Ll.len (hgtP l i.toNat ++ [[volN l i.toNat + Ll.get l i 0 * Ll.get l i 2, risN l i.toNat + Ll.get l i 1]]) ≤ 1000000 := by
      rw [← e2]; show ((List.length _ : Nat) : Int) ≤ 1000000; rw [hgtP_len]; omega
    have hN := hn (i + 1) _ _ _ ⟨by omega, by omega, by rw [e1, e], by rw [e1, e3], rfl⟩ (by omega)
    rw [e2] at hN
    generalize Ll.get l i 0 * Ll.get l i 2 = m at *
    repeat' (first | apply And.intro | intro _)
    all_goals first | trivial | omega | exact e4 | exact hN
  · obtain rfl : i = l.length := by omega
    rw [Int.toNat_natCast]
    repeat' (first | apply And.intro | intro _)
    all_goals first | trivial | omega | exact hx1
theorem ha0_eq (i f v : Int) (l : Ll) (T : Al (SV (stdA fsh true))) (M : Al (SO (stdA fsh true))) (KK : Ex → List (SV (stdA fsh true)) → List (SO (stdA fsh true)) → List Ll → Prop) : sCode Try.prog (sCall Try.prog 30 (spOf sp0) noLoop 20) ⟨79, false, noLoop 79⟩ 30 (false :: [false, true, true]) (bodyAt Try.prog 79 [false, true, true]) ⟨push [(0, .yld 7), (8, .ls false 0 (Ll.len l)), (9, .i .i64 (Ll.len l)), (3, .i .i64 f), (10, .i .i64 i)] T, 32, push [(0, .list 0 [.int .i64, .int .i64, .int .i64, .int .i64] false l), (4, .row 32 [.sl 3 0 1 1]), (5, .row 2 [.i .i64 v]), (7, .frm 20 [false, true, false, true, true, true, true] 33 (.c 3 (some (.p 4 0)) (.c 4 (some (.p 5 0)) .l)) false .normal), (3, .row 68 [.i .i64 (0 : Int), .i .i64 (0 : Int)])] M, 8, []⟩ (outL 8 (tsOf [3, 10] []) [4, 5, 7] [3] [(68, [.int .i64, .int .i64])] KK) =
  (cond (decide (i < (Ll.len l)))
 ((0 : Int) ≤ i ∧ (i < (Ll.len l) ∧ (i < (Ll.len l) ∧ (InK .i64 ((Ll.get l i 0) * (Ll.get l i 2)) ∧ (InK .i64 (f + ((Ll.get l i 0) * (Ll.get l i 2))) ∧ (InK .i64 (v + (Ll.get l i 1)) ∧ ((Ll.len ([[(0 : Int), (0 : Int)]] ++ [[(f + ((Ll.get l i 0) * (Ll.get l i 2))), (v + (Ll.get l i 1))]])) ≤ (1000000 : Int) ∧ (InK .i64 (i + (1 : Int)) ∧ (KK .normal [(.i .i64 (f + ((Ll.get l i 0) * (Ll.get l i 2)))), (.i .i64 (i + (1 : Int)))] [(.row 32 [(.ls true 8 (Ll.len ([[(0 : Int), (0 : Int)]] ++ [[(f + ((Ll.get l i 0) * (Ll.get l i 2))), (v + (Ll.get l i 1))]])))]), (.row 2 [(.i .i64 (v + (Ll.get l i 1)))]), (.frm 20 [false, true, false, true, true, true, true] 33 (.c 3 (some (.p 4 0)) (.c 4 (some (.p 5 0)) .l)) false .normal)] [([[(0 : Int), (0 : Int)]] ++ [[(f + ((Ll.get l i 0) * (Ll.get l i 2))), (v + (Ll.get l i 1))]])])))))))))
 False) := by kernel_rfl
theorem ha_go0 (l : Ll) (i_0 : Int) (f_0 : Int) (v_0 : Int) (T : Al (SV (stdA fsh true))) (M : Al (SO (stdA fsh true))) (KK : Ex → List (SV (stdA fsh true)) → List (SO (stdA fsh true)) → List Ll → Prop) (p1 : (holeE l) = (0 : Int)) (p2 : i_0 = (0 : Int)) (p3 : f_0 = (0 : Int)) (p4 : v_0 = (0 : Int)) (hn : ∀ (i' : Int) (f' : Int) (v' : Int) (g' : Ll), 0 ≤ i' ∧ i' ≤ l.length ∧ f' = volN l i'.toNat ∧ v' = risN l i'.toNat ∧ g' = hgtP l i'.toNat → (20 - i').toNat < 5000 → KK .normal [.i .i64 f', .i .i64 i'] [.row 32 [.ls true 8 (Ll.len g')], .row 2 [.i .i64 v'], .frm 20 [false, true, false, true, true, true, true] 33 (.c 3 (some (.p 4 0)) (.c 4 (some (.p 5 0)) .l)) false .normal] [g']) (hx1 : KK (.exit 0) [.i .i64 (volN l l.length), .i .i64 (Ll.len l)] [.row 32 [.ls true 8 (Ll.len (hgtP l l.length))], .row 2 [.i .i64 (risN l l.length)], .frm 20 [false, true, false, true, true, true, true] 33 (.c 3 (some (.p 4 0)) (.c 4 (some (.p 5 0)) .l)) false .normal] [(hgtP l l.length)]) :
    sCode Try.prog (sCall Try.prog 30 (spOf sp0) noLoop 20) ⟨79, false, noLoop 79⟩ 30 (false :: [false, true, true]) (bodyAt Try.prog 79 [false, true, true]) ⟨push [(0, .yld 7), (8, .ls false 0 (Ll.len l)), (9, .i .i64 (Ll.len l)), (3, .i .i64 f_0), (10, .i .i64 i_0)] T, 32, push [(0, .list 0 [.int .i64, .int .i64, .int .i64, .int .i64] false l), (4, .row 32 [.sl 3 0 1 1]), (5, .row 2 [.i .i64 v_0]), (7, .frm 20 [false, true, false, true, true, true, true] 33 (.c 3 (some (.p 4 0)) (.c 4 (some (.p 5 0)) .l)) false .normal), (3, .row 68 [.i .i64 (0 : Int), .i .i64 (0 : Int)])] M, 8, []⟩ (outL 8 (tsOf [3, 10] []) [4, 5, 7] [3] [(68, [.int .i64, .int .i64])] KK) := by
  refine Eq.mpr (ha0_eq i_0 f_0 v_0 l T M KK) ?_
  simp only [cond_iff, InK64]
  obtain rfl := p2
  obtain rfl := p3
  obtain rfl := p4
  have i0 : (0 : Int) ≤ 0 := Int.le_refl _
  have hl : Ll.len l = (l.length : Int) := rfl
  have p0 : HoleOK l := hole_of p1
  have hlen := p0.len
  have hlt : (0 : Int) < Ll.len l := by omega
  have ha := p0.at i0 (by omega)
  have hm := mul_bd (show 0 ≤ Ll.get l 0 0 by omega) ha.1.2 (show 0 ≤ Ll.get l 0 2 by omega) ha.2.2.2.2.1
  have h1 : volN l 1 = Ll.get l 0 0 * Ll.get l 0 2 := by simp [volN]
  have h2 : risN l 1 = Ll.get l 0 1 := by simp [risN]
  have h3 : hgtP l (1 : Int).toNat = [[0, 0]] ++ [[Ll.get l 0 0 * Ll.get l 0 2, Ll.get l 0 1]] := by
    show [[0, 0]] ++ [[volN l 1, risN l 1]] = _
    rw [h1, h2]
  have hN := hn 1 (Ll.get l 0 0 * Ll.get l 0 2) (Ll.get l 0 1) ([[0, 0]] ++ [[Ll.get l 0 0 * Ll.get l 0 2, Ll.get l 0 1]]) ⟨by omega, by omega, h1.symm, h2.symm, h3.symm⟩ (by decide)
  simp only [Int.zero_add]
  generalize Ll.get l 0 0 * Ll.get l 0 2 = m at *
  repeat' (first | apply And.intro | intro _)
  all_goals first | exact hN | omega | (show ((2 : Nat) : Int) ≤ 1000000; omega) | trivial
abbrev haF {A : Go.Rx.Alg} : Code → Go.Rx.SS A → (Go.Rx.Ex → Go.Rx.SS A → A.R) → A.R := fun c_ s_ K_ => match s_.T.get 0, s_.T.get 8, s_.T.get 9, s_.H.get 0, s_.T.get 3, s_.T.get 10, s_.H.get 4, s_.H.get 5, s_.H.get 7, s_.H.get 3 with
  | some (.yld 7), some (.ls false 0 m1), some (.i .i64 m2), some (.list t3 k3 false l), some (.i .i64 f), some (.i .i64 i), some (.row t4 [.sl 3 0 1 1]), some (.row t5 [.i .i64 v]), some (.frm f6 p6_ n6_ T6_ false .normal), some (.row t7 [.i .i64 m8, .i .i64 m9]) => (match T6_.get 3, T6_.get 4 with
    | some (.p 4 0), some (.p 5 0) => bif (((((((((Nat.beq s_.N 32 && Nat.beq s_.nx 8) && Nat.beq t3 0) && decide (k3 = [.int .i64, .int .i64, .int .i64, .int .i64])) && Nat.beq t4 32) && Nat.beq t5 2) && Nat.beq f6 20) && Go.Rx.samePath p6_ [false, true, false, true, true, true, true]) && Nat.beq n6_ 33) && Nat.beq t7 68) then (A.need .eql m1 (A.len l) (A.need .eql m2 (A.len l) (A.need .eql m8 (A.lit 0) (A.need .eql m9 (A.lit 0) (A.need .eql (A.app 1 [l] []) (A.lit 0) (A.need .eql i (A.lit 0) (A.need .eql f (A.lit 0) (A.need .eql v (A.lit 0) (K_ (.exit 0) (Go.Rx.hdL c_ s_.T (Go.Rx.kills [3] (s_.H.set 7 (some (.frm 20 [false, true, false, true, true, true, true] 33 (.c 3 (some (.p 4 0)) (.c 4 (some (.p 5 0)) .l)) false .normal)))) 32 8 [(0, .yld 7), (8, .ls false 0 (A.len l)), (9, .i .i64 (A.len l))] [(0, .list 0 [.int .i64, .int .i64, .int .i64, .int .i64] false l)] [(3, .i .i64 (A.app 8 [l] [])), (10, .i .i64 (A.len l))] [(4, .row 32 [.ls true 8 (A.len (A.appL 51 [l] []))]), (5, .row 2 [.i .i64 (A.app 10 [l] [])]), (7, .frm 20 [false, true, false, true, true, true, true] 33 (.c 3 (some (.p 4 0)) (.c 4 (some (.p 5 0)) .l)) false .normal)] [(68, [.int .i64, .int .i64])] [(A.appL 51 [l] [])] (Go.Rx.addW ([3] ++ [4, 5, 7]) s_.wr))))))))))) else A.fail "frame of ha"
    | _, _ => A.fail "slots of ha")
  | _, _, _, _, _, _, _, _, _, _ => A.fail "ha"
theorem haF_ok {d : Nat} (hd : 100 ≤ d) : LoopOK (fs := fsh) (ov := true) Try.prog AW d 79 [false, true, true] false haF := by
  intro m_ hm_ fn_ c0_ hfn_ hb_ c_ ro_ hro_ hc_ s_ K_ W_ ν_ S_ h_ hs_
  obtain rfl := body_of hfn_ hb_ hc_
  unfold haF at h_
  split at h_
  · rename_i m1_0 m2_0 t3 k3 l_0 f_0_0 i_0_0 t4 t5 v_0_0 f6 p6_ n6_ T6_ t7 m8_0 m9_0 g0 g1 g2 g3 g4 g5 g6 g7 g8 g9
    split at h_
    rotate_left
    · exact h_.elim
    rename_i z0 z1
    obtain ⟨m1, rfl⟩ : ∃ q : Int, q = m1_0 := ⟨m1_0, rfl⟩
    obtain ⟨m2, rfl⟩ : ∃ q : Int, q = m2_0 := ⟨m2_0, rfl⟩
    obtain ⟨l, rfl⟩ : ∃ q : Ll, q = l_0 := ⟨l_0, rfl⟩
    obtain ⟨f_0, rfl⟩ : ∃ q : Int, q = f_0_0 := ⟨f_0_0, rfl⟩
    obtain ⟨i_0, rfl⟩ : ∃ q : Int, q = i_0_0 := ⟨i_0_0, rfl⟩
    obtain ⟨v_0, rfl⟩ : ∃ q : Int, q = v_0_0 := ⟨v_0_0, rfl⟩
    obtain ⟨m8, rfl⟩ : ∃ q : Int, q = m8_0 := ⟨m8_0, rfl⟩
    obtain ⟨m9, rfl⟩ : ∃ q : Int, q = m9_0 := ⟨m9_0, rfl⟩
    obtain ⟨T_, FN_, M_, snx_, wr_⟩ := s_
    have hN : (((((((((Nat.beq FN_ 32 && Nat.beq snx_ 8) && Nat.beq t3 0) && decide (k3 = [.int .i64, .int .i64, .int .i64, .int .i64])) && Nat.beq t4 32) && Nat.beq t5 2) && Nat.beq f6 20) && Go.Rx.samePath p6_ [false, true, false, true, true, true, true]) && Nat.beq n6_ 33) && Nat.beq t7 68) = true := by
      cases hq : ((((((((((Nat.beq FN_ 32 && Nat.beq snx_ 8) && Nat.beq t3 0) && decide (k3 = [.int .i64, .int .i64, .int .i64, .int .i64])) && Nat.beq t4 32) && Nat.beq t5 2) && Nat.beq f6 20) && Go.Rx.samePath p6_ [false, true, false, true, true, true, true]) && Nat.beq n6_ 33) && Nat.beq t7 68) : Bool) with
      | true => rfl
      | false => (rw [hq] at h_; exact h_.elim)
    rw [hN, cond_true] at h_
    simp only [Bool.and_eq_true, beq_iff, decide_eq_true_eq] at hN
    obtain ⟨⟨⟨⟨⟨⟨⟨⟨⟨rfl, rfl⟩, rfl⟩, rfl⟩, rfl⟩, rfl⟩, rfl⟩, hsp_⟩, rfl⟩, rfl⟩ := hN
    obtain rfl := samePath_ok hsp_
    obtain ⟨q0, h_⟩ := h_
    obtain rfl : m1 = (Ll.len l) := q0
    obtain ⟨q0, h_⟩ := h_
    obtain rfl : m2 = (Ll.len l) := q0
    obtain ⟨q0, h_⟩ := h_
    obtain rfl : m8 = (0 : Int) := q0
    obtain ⟨q0, h_⟩ := h_
    obtain rfl : m9 = (0 : Int) := q0
    obtain ⟨q1, h_⟩ := h_
    have q1 : (holeE l) = (0 : Int) := q1
    obtain ⟨q2, h_⟩ := h_
    have q2 : i_0 = (0 : Int) := q2
    obtain ⟨q3, h_⟩ := h_
    have q3 : f_0 = (0 : Int) := q3
    obtain ⟨q4, h_⟩ := h_
    have q4 : v_0 = (0 : Int) := q4
    have hs2_ := sim_frm hs_ (kt := [(3, .p 4 0), (4, .p 5 0)]) g8 (fun x hx => by
      simp only [List.mem_cons, List.not_mem_nil, or_false] at hx
      rcases hx with rfl | rfl
      · exact z0
      · exact z1)
    replace hs2_ : Sim W_ ν_ ⟨T_, 32, Al.set M_ 7 (some (.frm 20 [false, true, false, true, true, true, true] 33 (.c 3 (some (.p 4 0)) (.c 4 (some (.p 5 0)) .l)) false .normal)), 8, wr_⟩ S_ := hs2_
    refine GoC.know (s' := ⟨T_, 32, Al.set M_ 7 (some (.frm 20 [false, true, false, true, true, true, true] 33 (.c 3 (some (.p 4 0)) (.c 4 (some (.p 5 0)) .l)) false .normal)), 8, wr_⟩) ⟨rfl, rfl⟩ ?_
    have w3 := (Al.get_set_ne M_ (some (.frm 20 [false, true, false, true, true, true, true] 33 (.c 3 (some (.p 4 0)) (.c 4 (some (.p 5 0)) .l)) false .normal)) (show 0 ≠ 7 by decide)).trans g3
    have w6 := (Al.get_set_ne M_ (some (.frm 20 [false, true, false, true, true, true, true] 33 (.c 3 (some (.p 4 0)) (.c 4 (some (.p 5 0)) .l)) false .normal)) (show 4 ≠ 7 by decide)).trans g6
    have w7 := (Al.get_set_ne M_ (some (.frm 20 [false, true, false, true, true, true, true] 33 (.c 3 (some (.p 4 0)) (.c 4 (some (.p 5 0)) .l)) false .normal)) (show 5 ≠ 7 by decide)).trans g7
    have w8 : (Al.set M_ 7 (some (.frm 20 [false, true, false, true, true, true, true] 33 (.c 3 (some (.p 4 0)) (.c 4 (some (.p 5 0)) .l)) false .normal))).get 7 = some (.frm 20 [false, true, false, true, true, true, true] 33 (.c 3 (some (.p 4 0)) (.c 4 (some (.p 5 0)) .l)) false .normal) := Al.get_set_same _ _ _
    have w9 := (Al.get_set_ne M_ (some (.frm 20 [false, true, false, true, true, true, true] 33 (.c 3 (some (.p 4 0)) (.c 4 (some (.p 5 0)) .l)) false .normal)) (show 3 ≠ 7 by decide)).trans g9
    replace h_ : K_ (.exit 0) (hdL (bodyAt Try.prog 79 [false, true, true]) T_ (kills [3] (Al.set M_ 7 (some (.frm 20 [false, true, false, true, true, true, true] 33 (.c 3 (some (.p 4 0)) (.c 4 (some (.p 5 0)) .l)) false .normal)))) 32 8 [(0, .yld 7), (8, .ls false 0 (Ll.len l)), (9, .i .i64 (Ll.len l))] [(0, .list 0 [.int .i64, .int .i64, .int .i64, .int .i64] false l)] [(3, .i .i64 (volN l l.length)), (10, .i .i64 (Ll.len l))] [(4, .row 32 [.ls true 8 (Ll.len (hgtP l l.length))]), (5, .row 2 [.i .i64 (risN l l.length)]), (7, .frm 20 [false, true, false, true, true, true, true] 33 (.c 3 (some (.p 4 0)) (.c 4 (some (.p 5 0)) .l)) false .normal)] [(68, [.int .i64, .int .i64])] [(hgtP l l.length)] (addW ([3] ++ [4, 5, 7]) wr_)) := h_
    obtain ⟨M2_, hM2_⟩ : ∃ M2_, M2_ = (Al.set M_ 7 (some (.frm 20 [false, true, false, true, true, true, true] 33 (.c 3 (some (.p 4 0)) (.c 4 (some (.p 5 0)) .l)) false .normal))) := ⟨_, rfl⟩
    rw [← hM2_] at h_ hs2_ w3 w6 w7 w8 w9 ⊢
    have hx1 : K_ (.exit 0) (hdL (bodyAt Try.prog 79 [false, true, true]) T_ (kills [3] M2_) 32 8 [(0, .yld 7), (8, .ls false 0 (Ll.len l)), (9, .i .i64 (Ll.len l))] [(0, .list 0 [.int .i64, .int .i64, .int .i64, .int .i64] false l)] [(3, .i .i64 (volN l l.length)), (10, .i .i64 (Ll.len l))] [(4, .row 32 [.ls true 8 (Ll.len (hgtP l l.length))]), (5, .row 2 [.i .i64 (risN l l.length)]), (7, .frm 20 [false, true, false, true, true, true, true] 33 (.c 3 (some (.p 4 0)) (.c 4 (some (.p 5 0)) .l)) false .normal)] [(68, [.int .i64, .int .i64])] [(hgtP l l.length)] (addW ([3] ++ [4, 5, 7]) wr_)) := by
      have h2 := h_
      exact h2
    refine loop_ruleF (fs := fsh) (ov := true) (s := ⟨T_, 32, M2_, 8, wr_⟩) (X := Int × Int × Int × Ll) (B := [4, 5, 7]) (mv := [3]) (kt := [(0, .yld 7), (8, .ls false 0 (Ll.len l)), (9, .i .i64 (Ll.len l))]) (kr := [(0, .list 0 [.int .i64, .int .i64, .int .i64, .int .i64] false l)]) (kt0 := [(0, .yld 7), (8, .ls false 0 (Ll.len l)), (9, .i .i64 (Ll.len l)), (3, .i .i64 f_0), (10, .i .i64 i_0)]) (kr0 := [(0, .list 0 [.int .i64, .int .i64, .int .i64, .int .i64] false l), (4, .row 32 [.sl 3 0 1 1]), (5, .row 2 [.i .i64 v_0]), (7, .frm 20 [false, true, false, true, true, true, true] 33 (.c 3 (some (.p 4 0)) (.c 4 (some (.p 5 0)) .l)) false .normal), (3, .row 68 [.i .i64 (0 : Int), .i .i64 (0 : Int)])]) (ty := [(68, [.int .i64, .int .i64])]) (m := 5000)
      (Inv := (fun x_ : Int × Int × Int × Ll => match x_ with | (i, f, v, g) => 0 ≤ i ∧ i ≤ l.length ∧ f = volN l i.toNat ∧ v = risN l i.toNat ∧ g = hgtP l i.toNat)) (μ := (fun x_ : Int × Int × Int × Ll => match x_ with | (i, f, v, g) => (20 - i).toNat)) (ts := tsOf [3, 10] []) (sl := (fun x_ : Int × Int × Int × Ll => match x_ with | (i, f, v, g) => [.i .i64 f, .i .i64 i])) (bl := (fun x_ : Int × Int × Int × Ll => match x_ with | (i, f, v, g) => [.row 32 [.ls true 8 (Ll.len g)], .row 2 [.i .i64 v], .frm 20 [false, true, false, true, true, true, true] 33 (.c 3 (some (.p 4 0)) (.c 4 (some (.p 5 0)) .l)) false .normal])) (ll := (fun x_ : Int × Int × Int × Ll => match x_ with | (i, f, v, g) => [g])) (Q := fun e_ vs_ os_ hs2_ => K_ e_ (hdL (bodyAt Try.prog 79 [false, true, true]) T_ (kills [3] M2_) 32 8 [(0, .yld 7), (8, .ls false 0 (Ll.len l)), (9, .i .i64 (Ll.len l))] [(0, .list 0 [.int .i64, .int .i64, .int .i64, .int .i64] false l)] (((tsOf [3, 10] []) e_).zip vs_) ([4, 5, 7].zip os_) [(68, [.int .i64, .int .i64])] hs2_ (addW ([3] ++ [4, 5, 7]) wr_)))
      (L := LL) (U := 30) (cs := sCall Try.prog 30 (spOf sp0) noLoop 20) (call := CN Try.prog AW m_) (lp := ⟨79, false, noLoop 79⟩) (root := c0_) (p := [false, true, true])
      (show CallSOK _ _ from by
        have := sCall_ok (P := Try.prog) (d := m_ - 20) (U := 30) (lp := noLoop) (sp0_ok (fs := fsh) (ov := true) (d := m_ - 20)) (sp0_aw (fs := fsh) (ov := true)) (noLoop_ok) (by decide) rfl 20
        rwa [show 20 + (m_ - 20) = m_ by omega] at this) (ctx_of (g := 79) (rg := false) (at_ := noLoop 79) (fun p rg f h => by cases h) hfn_ hb_ hro_) (by decide) hc_
      (by
        rintro ⟨i, f, v, g⟩ o ho
        simp only [List.mem_cons, List.not_mem_nil, or_false] at ho
        rcases ho with rfl | rfl | rfl
        · rfl
        · rfl
        · rfl)
      (fun x hx => by
        simp only [List.mem_cons, List.not_mem_nil, or_false] at hx
        rcases hx with rfl | rfl | rfl
        · exact ⟨_, w6, rfl⟩
        · exact ⟨_, w7, rfl⟩
        · exact ⟨_, w8, rfl⟩) (fun x hx => by
        simp only [List.mem_cons, List.not_mem_nil, or_false] at hx
        rcases hx with rfl
        · exact ⟨_, w9, rfl⟩) (fun x hx => by
        simp only [List.mem_cons, List.not_mem_nil, or_false] at hx
        rcases hx with rfl | rfl | rfl
        · simp
        · simp
        · simp)
      (fun x hx => by
        simp only [List.mem_cons, List.not_mem_nil, or_false] at hx
        rcases hx with rfl | rfl | rfl
        · exact g0
        · exact g1
        · exact g2) (fun x hx => by
        simp only [List.mem_cons, List.not_mem_nil, or_false] at hx
        rcases hx with rfl
        · exact ⟨w3, by simp⟩) ?_ (fun _ _ _ _ _ h => h) (by decide) (fun x hx => by
        simp only [List.mem_cons, List.not_mem_nil, or_false] at hx
        rcases hx with rfl | rfl | rfl | rfl | rfl
        · exact g0
        · exact g1
        · exact g2
        · exact g4
        · exact g5) (fun x hx => by
        simp only [List.mem_cons, List.not_mem_nil, or_false] at hx
        rcases hx with rfl | rfl | rfl | rfl | rfl
        · exact w3
        · exact w6
        · exact w7
        · exact w8
        · exact w9) ?_ hs2_
    · rintro ⟨i, f, v, g⟩ hI
      exact ha_go l i f v g i_0 f_0 v_0 q2 q3 q4 T_ (kills [3] M2_) _ q1 hI (fun i' f' v' g' ha hb => ⟨(i', f', v', g'), ha, hb, rfl, rfl, rfl⟩) (⟨by simp [SO.mine], hx1⟩)
    · exact ha_go0 l i_0 f_0 v_0 T_ M2_ _ q1 q2 q3 q4 (fun i' f' v' g' ha hb => ⟨(i', f', v', g'), ha, hb, rfl, rfl, rfl⟩) (⟨by simp [SO.mine], hx1⟩)
  · exact h_.elim

abbrev lpH {A : Go.Rx.Alg} : Nat → Go.Rx.LoopS A := Go.Rx.lpOf [(79, [false, true, true], false, haF)]
theorem lpH_ok {d : Nat} (hd : 100 ≤ d) : LoopsAll (fs := fsh) (ov := true) Try.prog AW d lpH := lpOf_ok fun x hx => by
  simp only [List.mem_cons, List.not_mem_nil, or_false] at hx
  rcases hx with rfl
  · exact haF_ok (by omega)
theorem height_eq (l : Ll) (KK : KS (stdA fsh true)) : sFunc Try.prog 30 (sCall Try.prog 30 (spOf spB) lpH 20) lpH 20 [.agg [.ls false 0 (Ll.len l)]] (lsMem 0 [([.int .i64, .int .i64, .int .i64, .int .i64], l)]) 1 KK =
  ((Ll.len l) = (Ll.len l) ∧ (cond (decide ((holeE l) ≠ (0 : Int)))
 (KK (.agg [.nils]) (lsMem 0 [([.int .i64, .int .i64, .int .i64, .int .i64], l)]) 1 [])
 ((Ll.len l) = (Ll.len l) ∧ ((Ll.len l) = (Ll.len l) ∧ ((0 : Int) = (0 : Int) ∧ ((0 : Int) = (0 : Int) ∧ ((holeE l) = (0 : Int) ∧ ((0 : Int) = (0 : Int) ∧ ((0 : Int) = (0 : Int) ∧ ((0 : Int) = (0 : Int) ∧ ((Ll.len (hgtP l l.length)) = (Ll.len (hgtP l l.length)) ∧ (KK (.agg [(.ls true 1 (Ll.len (hgtP l l.length)))]) (Al.set (lsMem 0 [([.int .i64, .int .i64, .int .i64, .int .i64], l)]) 1 (some (.list 68 [.int .i64, .int .i64] true (hgtP l l.length)))) 2 [])))))))))))) := by kernel_rfl
theorem height_gives {m : Nat} (hm : 400 ≤ m) {H : Hp} {nx : Nat} {v_l : LV} {l : Ll} (hl_l : IsL H nx [.int .i64, .int .i64, .int .i64, .int .i64] l v_l) : Gives Try.prog AW m 20 [.agg [v_l]] H nx true 68 [.int .i64, .int .i64] (hgtL l) := by
  obtain ⟨ν, n1, n2, n3, n4⟩ := ls_in (fs := fsh) (ov := true) (l := [([.int .i64, .int .i64, .int .i64, .int .i64], l)]) (lvs := [v_l]) 0 (fun i x lv e1 e2 => by
    cases i with
    | zero => simp at e1 e2; subst e1 e2; exact hl_l
    | succ i =>
      simp at e1) rfl
  refine gives_of (n := 20) (d := m - 21) (U := 30) (fs := fsh) (ov := true) (spB_ok (by omega)) spB_aw (lpH_ok (by omega)) (by decide) (by decide) (by omega) (args := [.agg [.ls false 0 (Ll.len l)]]) (M := lsMem 0 [([.int .i64, .int .i64, .int .i64, .int .i64], l)]) (snx := 1) ?_ ?_ (VSL.cons ⟨_, rfl, (VSL.cons (n4 0 _ _ rfl rfl) rfl)⟩ rfl) (hs_in n2 n3)
  rw [height_eq]
  · simp only [cond_iff, InK64]
    have hl : Ll.len l = (l.length : Int) := rfl
    have c0 : hgtL l = if holeE l = 0 then hgtP l l.length else [] := rfl
    by_cases hz : holeE l = 0
    · rw [if_pos hz] at c0
      repeat' (first | exact end_l (w := true) c0.symm | exact end_nil (w := true) (by omega) | apply And.intro | intro _)
      all_goals first
        | trivial
        | omega
    · rw [if_neg hz] at c0
      repeat' (first | exact end_nil (w := true) c0 | apply And.intro | intro _)
      all_goals first
        | trivial
        | omega
  · show ∀ x ∈ hgtL l, x.length = 2
    intro x hx
    unfold hgtL at hx
    split at hx
    · exact hgtP_rows l _ x hx
    · cases hx
abbrev heightS {A : Go.Rx.Alg} : List (Go.Rx.SV A) → Go.Rx.SH A → Nat → Go.Rx.KS A → A.R := fun args_ M_ snx_ K_ => match args_ with
  | [.agg [x_l]] => (match Go.Rx.lsArg M_ [.int .i64, .int .i64, .int .i64, .int .i64] x_l with | some (l, n_l) => (A.need .eql n_l (A.len l) ((M_.set snx_ (some (.list 68 [.int .i64, .int .i64] true (A.appL 50 [l] [])))).force fun M_ => K_ (.agg [.ls true snx_ (A.len (A.appL 50 [l] []))]) M_ (snx_ + 1) [])) | none => A.fail "height")
  | _ => A.fail "height"
theorem heightS_ok {ov : Bool} {d : Nat} (hd : 400 ≤ d) : SpecOK (fs := fsh) (ov := ov) Try.prog AW d 20 heightS := by
  intro m_ hm_ args_ M_ snx_ K_ h_ ν_ largs_ H_ nx_ ha_ hM_
  unfold heightS at h_
  split at h_
  · rename_i x_l
    obtain ⟨y1, r1, rfl, ⟨l1, rfl, ⟨v_l, r2, rfl, hx_l, rfl⟩⟩, rfl⟩ := ha_
    split at h_
    · rename_i l n_l q_l
      obtain ⟨e_l, h_⟩ := h_
      exact gives_got (height_gives (by omega) (lsArg_ok hM_ hx_l q_l e_l)) hM_ h_
    · exact h_.elim
  · exact h_.elim

theorem sm_eq (i : Int) (a b : Ll) (T : Al (SV (stdA fsh true))) (M : Al (SO (stdA fsh true))) (KK : Ex → List (SV (stdA fsh true)) → List (SO (stdA fsh true)) → List Ll → Prop) : sCode Try.prog (sCall Try.prog 30 (spOf sp0) noLoop 20) ⟨19, false, noLoop 19⟩ 30 (false :: [false, true, false, true]) (bodyAt Try.prog 19 [false, true, false, true]) (hdL (bodyAt Try.prog 19 [false, true, false, true]) T M 38 4 [(2, .p 2 0), (3, .p 3 0)] [(0, .list 0 [.int .i64, .int .i64] false a), (1, .list 0 [.int .i64, .int .i64] false b), (2, .row 32 [.ls false 0 (Ll.len a)]), (3, .row 32 [.ls false 1 (Ll.len b)])] [(5, .i .i64 i)] [] [] [] []) (outL 4 (tsOf [5] [4]) [] [] [] KK) =
  (cond (decide (i < (Ll.len a)))
 (cond (decide (i < (Ll.len b)))
 ((0 : Int) ≤ i ∧ (i < (Ll.len a) ∧ (i < (Ll.len a) ∧ ((0 : Int) ≤ i ∧ (i < (Ll.len b) ∧ (i < (Ll.len b) ∧ (cond (!((decide ((Ll.get a i 0) = (Ll.get b i 0))) && (decide ((Ll.get a i 1) = (Ll.get b i 1)))))
 (KK .ret [(.b false)] [] [])
 (InK .i64 (i + (1 : Int)) ∧ (KK .normal [(.i .i64 (i + (1 : Int)))] [] [])))))))))
 (KK (.exit 0) [(.i .i64 i)] [] []))
 (KK (.exit 0) [(.i .i64 i)] [] [])) := by kernel_rfl
theorem sm_go (a : Ll) (b : Ll) (i : Int) (i_0 : Int) (r1 : i_0 = (0 : Int)) (T : Al (SV (stdA fsh true))) (M : Al (SO (stdA fsh true))) (KK : Ex → List (SV (stdA fsh true)) → List (SO (stdA fsh true)) → List Ll → Prop) (p1 : (Ll.len a) ≤ (1000000 : Int)) (hI : 0 ≤ i ∧ i ≤ dfL a b) (hn : ∀ (i' : Int), 0 ≤ i' ∧ i' ≤ dfL a b → (2000000 - i').toNat < (2000000 - i).toNat → KK .normal [.i .i64 i'] [] []) (hx1 : (decide (dfL a b < (min a.length b.length : Nat))) = true → KK .ret [.b false] [] []) (hx2 : (decide (dfL a b < (min a.length b.length : Nat))) = false → KK (.exit 0) [.i .i64 (dfL a b)] [] []) :
    sCode Try.prog (sCall Try.prog 30 (spOf sp0) noLoop 20) ⟨19, false, noLoop 19⟩ 30 (false :: [false, true, false, true]) (bodyAt Try.prog 19 [false, true, false, true]) (hdL (bodyAt Try.prog 19 [false, true, false, true]) T M 38 4 [(2, .p 2 0), (3, .p 3 0)] [(0, .list 0 [.int .i64, .int .i64] false a), (1, .list 0 [.int .i64, .int .i64] false b), (2, .row 32 [.ls false 0 (Ll.len a)]), (3, .row 32 [.ls false 1 (Ll.len b)])] [(5, .i .i64 i)] [] [] [] []) (outL 4 (tsOf [5] [4]) [] [] [] KK) := by
  refine Eq.mpr (sm_eq i a b T M KK) ?_
  have hl : Ll.len a = (a.length : Int) := rfl
  have hl2 : Ll.len b = (b.length : Int) := rfl
  obtain ⟨i0, i1⟩ := hI
  obtain ⟨_, a2, _, _⟩ := leastN_spec (fun j => !rowE2 a b j) (min a.length b.length) 0
  have a3 : dfL a b ≤ (min a.length b.length : Nat) := by unfold dfL; omega
  by_cases h : i < Ll.len a
  · rw [decide_eq_true h]
    by_cases h2 : i < Ll.len b
    · rw [decide_eq_true h2]
      have hs := leastN_step (p := fun j => !rowE2 a b j) (k := min a.length b.length) i0 i1 (by omega)
      have key : cond (!rowE2 a b i) (KK .ret [.b false] [] []) (InK .i64 (i + 1) ∧ KK .normal [.i .i64 (i + 1)] [] []) := by
        cases hb : rowE2 a b i with
        | false => exact hx1 (decide_eq_true (by have : dfL a b = i := hs.1 (by rw [hb]; rfl); omega))
        | true => exact ⟨by rw [InK64]; omega, hn (i + 1) ⟨by omega, hs.2 (by rw [hb]; rfl)⟩ (by omega)⟩
      repeat' (first | exact key | apply And.intro)
      all_goals first | trivial | omega
    · rw [decide_eq_false h2]
      obtain rfl : i = dfL a b := by omega
      exact hx2 (decide_eq_false (by omega))
  · rw [decide_eq_false h]
    obtain rfl : i = dfL a b := by omega
    exact hx2 (decide_eq_false (by omega))
abbrev smF {A : Go.Rx.Alg} : Code → Go.Rx.SS A → (Go.Rx.Ex → Go.Rx.SS A → A.R) → A.R := fun c_ s_ K_ => match s_.T.get 2, s_.T.get 3, s_.H.get 0, s_.H.get 1, s_.H.get 2, s_.H.get 3, s_.T.get 5 with
  | some (.p 2 0), some (.p 3 0), some (.list t1 k1 false a), some (.list t2 k2 false b), some (.row t3 [.ls false 0 m4]), some (.row t5 [.ls false 1 m6]), some (.i .i64 i) => bif (((((((Nat.beq s_.N 38 && Nat.beq s_.nx 4) && Nat.beq t1 0) && decide (k1 = [.int .i64, .int .i64])) && Nat.beq t2 0) && decide (k2 = [.int .i64, .int .i64])) && Nat.beq t3 32) && Nat.beq t5 32) then (A.need .eql m4 (A.len a) (A.need .eql m6 (A.len b) (A.need .eql i (A.lit 0) (A.need .leq (A.len a) (A.lit 1000000) ((A.br (A.appB 31 [a, b] []) (fun _ => K_ .ret (Go.Rx.hdL c_ s_.T (Go.Rx.kills [] s_.H) 38 4 [(2, .p 2 0), (3, .p 3 0)] [(0, .list 0 [.int .i64, .int .i64] false a), (1, .list 0 [.int .i64, .int .i64] false b), (2, .row 32 [.ls false 0 (A.len a)]), (3, .row 32 [.ls false 1 (A.len b)])] [(4, .b (A.ofB false))] [] [] [] (Go.Rx.addW ([] ++ []) s_.wr))) (fun _ => K_ (.exit 0) (Go.Rx.hdL c_ s_.T (Go.Rx.kills [] s_.H) 38 4 [(2, .p 2 0), (3, .p 3 0)] [(0, .list 0 [.int .i64, .int .i64] false a), (1, .list 0 [.int .i64, .int .i64] false b), (2, .row 32 [.ls false 0 (A.len a)]), (3, .row 32 [.ls false 1 (A.len b)])] [(5, .i .i64 (A.app 13 [a, b] []))] [] [] [] (Go.Rx.addW ([] ++ []) s_.wr))))))))) else A.fail "frame of sm"
  | _, _, _, _, _, _, _ => A.fail "sm"
theorem smF_ok {d : Nat} (hd : 100 ≤ d) : LoopOK (fs := fsh) (ov := true) Try.prog AW d 19 [false, true, false, true] false smF := by
  intro m_ hm_ fn_ c0_ hfn_ hb_ c_ ro_ hro_ hc_ s_ K_ W_ ν_ S_ h_ hs_
  obtain rfl := body_of hfn_ hb_ hc_
  unfold smF at h_
  split at h_
  · rename_i t1 k1 a_0 t2 k2 b_0 t3 m4_0 t5 m6_0 i_0_0 g0 g1 g2 g3 g4 g5 g6
    obtain ⟨a, rfl⟩ : ∃ q : Ll, q = a_0 := ⟨a_0, rfl⟩
    obtain ⟨b, rfl⟩ : ∃ q : Ll, q = b_0 := ⟨b_0, rfl⟩
    obtain ⟨m4, rfl⟩ : ∃ q : Int, q = m4_0 := ⟨m4_0, rfl⟩
    obtain ⟨m6, rfl⟩ : ∃ q : Int, q = m6_0 := ⟨m6_0, rfl⟩
    obtain ⟨i_0, rfl⟩ : ∃ q : Int, q = i_0_0 := ⟨i_0_0, rfl⟩
    obtain ⟨T_, FN_, M_, snx_, wr_⟩ := s_
    have hN : (((((((Nat.beq FN_ 38 && Nat.beq snx_ 4) && Nat.beq t1 0) && decide (k1 = [.int .i64, .int .i64])) && Nat.beq t2 0) && decide (k2 = [.int .i64, .int .i64])) && Nat.beq t3 32) && Nat.beq t5 32) = true := by
      cases hq : ((((((((Nat.beq FN_ 38 && Nat.beq snx_ 4) && Nat.beq t1 0) && decide (k1 = [.int .i64, .int .i64])) && Nat.beq t2 0) && decide (k2 = [.int .i64, .int .i64])) && Nat.beq t3 32) && Nat.beq t5 32) : Bool) with
      | true => rfl
      | false => (rw [hq] at h_; exact h_.elim)
    rw [hN, cond_true] at h_
    simp only [Bool.and_eq_true, beq_iff, decide_eq_true_eq] at hN
    obtain ⟨⟨⟨⟨⟨⟨⟨rfl, rfl⟩, rfl⟩, rfl⟩, rfl⟩, rfl⟩, rfl⟩, rfl⟩ := hN
    obtain ⟨q0, h_⟩ := h_
    obtain rfl : m4 = (Ll.len a) := q0
    obtain ⟨q0, h_⟩ := h_
    obtain rfl : m6 = (Ll.len b) := q0
    obtain ⟨q1, h_⟩ := h_
    have q1 : i_0 = (0 : Int) := q1
    obtain ⟨q2, h_⟩ := h_
    have q2 : (Ll.len a) ≤ (1000000 : Int) := q2
    replace h_ : cond (decide (dfL a b < (min a.length b.length : Nat))) (K_ .ret (hdL (bodyAt Try.prog 19 [false, true, false, true]) T_ (kills [] M_) 38 4 [(2, .p 2 0), (3, .p 3 0)] [(0, .list 0 [.int .i64, .int .i64] false a), (1, .list 0 [.int .i64, .int .i64] false b), (2, .row 32 [.ls false 0 (Ll.len a)]), (3, .row 32 [.ls false 1 (Ll.len b)])] [(4, .b false)] [] [] [] (addW ([] ++ []) wr_))) (K_ (.exit 0) (hdL (bodyAt Try.prog 19 [false, true, false, true]) T_ (kills [] M_) 38 4 [(2, .p 2 0), (3, .p 3 0)] [(0, .list 0 [.int .i64, .int .i64] false a), (1, .list 0 [.int .i64, .int .i64] false b), (2, .row 32 [.ls false 0 (Ll.len a)]), (3, .row 32 [.ls false 1 (Ll.len b)])] [(5, .i .i64 (dfL a b))] [] [] [] (addW ([] ++ []) wr_))) := h_
    have hx1 : (decide (dfL a b < (min a.length b.length : Nat))) = true → K_ .ret (hdL (bodyAt Try.prog 19 [false, true, false, true]) T_ (kills [] M_) 38 4 [(2, .p 2 0), (3, .p 3 0)] [(0, .list 0 [.int .i64, .int .i64] false a), (1, .list 0 [.int .i64, .int .i64] false b), (2, .row 32 [.ls false 0 (Ll.len a)]), (3, .row 32 [.ls false 1 (Ll.len b)])] [(4, .b false)] [] [] [] (addW ([] ++ []) wr_)) := fun e1 => by
      have h2 := h_
      rw [e1] at h2; simp only [cond_true, cond_false] at h2; exact h2
    have hx2 : (decide (dfL a b < (min a.length b.length : Nat))) = false → K_ (.exit 0) (hdL (bodyAt Try.prog 19 [false, true, false, true]) T_ (kills [] M_) 38 4 [(2, .p 2 0), (3, .p 3 0)] [(0, .list 0 [.int .i64, .int .i64] false a), (1, .list 0 [.int .i64, .int .i64] false b), (2, .row 32 [.ls false 0 (Ll.len a)]), (3, .row 32 [.ls false 1 (Ll.len b)])] [(5, .i .i64 (dfL a b))] [] [] [] (addW ([] ++ []) wr_)) := fun e1 => by
      have h2 := h_
      rw [e1] at h2; simp only [cond_true, cond_false] at h2; exact h2
    refine loop_ruleL (fs := fsh) (ov := true) (s := ⟨T_, 38, M_, 4, wr_⟩) (X := Int) (B := []) (mv := []) (kt := [(2, .p 2 0), (3, .p 3 0)]) (kr := [(0, .list 0 [.int .i64, .int .i64] false a), (1, .list 0 [.int .i64, .int .i64] false b), (2, .row 32 [.ls false 0 (Ll.len a)]), (3, .row 32 [.ls false 1 (Ll.len b)])]) (ty := []) (x := (i_0))
      (Inv := (fun x_ : Int => match x_ with | (i) => 0 ≤ i ∧ i ≤ dfL a b)) (μ := (fun x_ : Int => match x_ with | (i) => (2000000 - i).toNat)) (ts := tsOf [5] [4]) (sl := (fun x_ : Int => match x_ with | (i) => [.i .i64 i])) (bl := (fun x_ : Int => match x_ with | (i) => [])) (ll := (fun x_ : Int => match x_ with | (i) => [])) (Q := fun e_ vs_ os_ hs_ => K_ e_ (hdL (bodyAt Try.prog 19 [false, true, false, true]) T_ (kills [] M_) 38 4 [(2, .p 2 0), (3, .p 3 0)] [(0, .list 0 [.int .i64, .int .i64] false a), (1, .list 0 [.int .i64, .int .i64] false b), (2, .row 32 [.ls false 0 (Ll.len a)]), (3, .row 32 [.ls false 1 (Ll.len b)])] (((tsOf [5] [4]) e_).zip vs_) ([].zip os_) [] hs_ (addW ([] ++ []) wr_)))
      (L := LL) (U := 30) (cs := sCall Try.prog 30 (spOf sp0) noLoop 20) (call := CN Try.prog AW m_) (lp := ⟨19, false, noLoop 19⟩) (root := c0_) (p := [false, true, false, true])
      (show CallSOK _ _ from by
        have := sCall_ok (P := Try.prog) (d := m_ - 20) (U := 30) (lp := noLoop) (sp0_ok (fs := fsh) (ov := true) (d := m_ - 20)) (sp0_aw (fs := fsh) (ov := true)) (noLoop_ok) (by decide) rfl 20
        rwa [show 20 + (m_ - 20) = m_ by omega] at this) (ctx_of (g := 19) (rg := false) (at_ := noLoop 19) (fun p rg f h => by cases h) hfn_ hb_ hro_) (by decide) hc_
      (fun x o ho => by cases ho)
      (fun x hx => by cases hx) (fun x hx => by cases hx) (fun x hx => by cases hx)
      (fun x hx => by
        simp only [List.mem_cons, List.not_mem_nil, or_false] at hx
        rcases hx with rfl | rfl
        · exact g0
        · exact g1) (fun x hx => by
        simp only [List.mem_cons, List.not_mem_nil, or_false] at hx
        rcases hx with rfl | rfl | rfl | rfl
        · exact ⟨g2, by simp⟩
        · exact ⟨g3, by simp⟩
        · exact ⟨g4, by simp⟩
        · exact ⟨g5, by simp⟩) ?_ (fun _ _ _ _ _ h => h) ?_ ?_ ?_ hs_
    · rintro i hI
      exact sm_go a b i i_0 q1 T_ (kills [] M_) _ q2 hI (fun i' ha hb => ⟨(i'), ha, hb, rfl, rfl, rfl⟩) (fun e1 => ⟨by simp [SO.mine], hx1 e1⟩) (fun e1 => ⟨by simp [SO.mine], hx2 e1⟩)
    · show 0 ≤ i_0 ∧ i_0 ≤ dfL a b
      exact ⟨by omega, by rw [q1]; exact (leastN_spec (fun j => !rowE2 a b j) (min a.length b.length) 0).1⟩
    · show (2000000 - i_0).toNat < LL
      exact Nat.lt_of_le_of_lt (show _ ≤ 2000000 by omega) (by decide)
    · exact ⟨⟨[.i .i64 i_0], [], [], [], by simp [gets, tsOf, g0, g1, g2, g3, g4, g5, g6], by simp [gets, g0, g1, g2, g3, g4, g5, g6], rfl, rfl, by simp [listsOf] <;> rfl⟩⟩
  · exact h_.elim
abbrev lpSm {A : Go.Rx.Alg} : Nat → Go.Rx.LoopS A := Go.Rx.lpOf [(19, [false, true, false, true], false, smF)]
theorem lpSm_ok {d : Nat} (hd : 100 ≤ d) : LoopsAll (fs := fsh) (ov := true) Try.prog AW d lpSm := lpOf_ok fun x hx => by
  simp only [List.mem_cons, List.not_mem_nil, or_false] at hx
  rcases hx with rfl
  · exact smF_ok (by omega)
theorem same_eq (a b : Ll) (KK : KS (stdA fsh true)) : sFunc Try.prog 30 (sCall Try.prog 30 (spOf sp0) lpSm 20) lpSm 19 [.agg [.ls false 0 (Ll.len a)], .agg [.ls false 1 (Ll.len b)]] (lsMem 0 [([.int .i64, .int .i64], a), ([.int .i64, .int .i64], b)]) 2 KK =
  ((Ll.len a) = (Ll.len a) ∧ ((Ll.len b) = (Ll.len b) ∧ ((0 : Int) = (0 : Int) ∧ ((Ll.len a) ≤ (1000000 : Int) ∧ (cond (decide (dfL a b < (min a.length b.length : Nat)))
 (KK (.b false) (lsMem 0 [([.int .i64, .int .i64], a), ([.int .i64, .int .i64], b)]) 2 [])
 (KK (.b (decide ((Ll.len a) = (Ll.len b)))) (lsMem 0 [([.int .i64, .int .i64], a), ([.int .i64, .int .i64], b)]) 2 [])))))) := by kernel_rfl
theorem same_pure {m : Nat} (hm : 200 ≤ m) {H : Hp} {nx : Nat} {v_a : LV} {a : Ll} (hl_a : IsL H nx [.int .i64, .int .i64] a v_a) {v_b : LV} {b : Ll} (hl_b : IsL H nx [.int .i64, .int .i64] b v_b) (p1 : (Ll.len a) ≤ (1000000 : Int)) : Pure Try.prog AW m 19 [.agg [v_a], .agg [v_b]] H nx (.b (sameL2 a b)) := by
  obtain ⟨ν, n1, n2, n3, n4⟩ := ls_in (fs := fsh) (ov := true) (l := [([.int .i64, .int .i64], a), ([.int .i64, .int .i64], b)]) (lvs := [v_a, v_b]) 0 (fun i x lv e1 e2 => by
    cases i with
    | zero => simp at e1 e2; subst e1 e2; exact hl_a
    | succ i =>
      cases i with
      | zero => simp at e1 e2; subst e1 e2; exact hl_b
      | succ i =>
        simp at e1) rfl
  refine pure_of (n := 20) (d := m - 21) (U := 30) (fs := fsh) (ov := true) sp0_ok sp0_aw (lpSm_ok (by omega)) (by decide) (by decide) (by omega) (args := [.agg [.ls false 0 (Ll.len a)], .agg [.ls false 1 (Ll.len b)]]) (M := lsMem 0 [([.int .i64, .int .i64], a), ([.int .i64, .int .i64], b)]) (snx := 2) ?_ (VSL.cons ⟨_, rfl, (VSL.cons (n4 0 _ _ rfl rfl) rfl)⟩ (VSL.cons ⟨_, rfl, (VSL.cons (n4 1 _ _ rfl rfl) rfl)⟩ rfl)) (hs_in n2 n3)
  rw [same_eq]
  have hl : Ll.len a = (a.length : Int) := rfl
  have hl2 : Ll.len b = (b.length : Int) := rfl
  have c0 : sameL2 a b = decide (a.length = b.length ∧ ¬ dfL a b < (min a.length b.length : Nat)) := rfl
  by_cases h : dfL a b < (min a.length b.length : Nat)
  · rw [decide_eq_true h]
    repeat' (first | exact end_b (by rw [c0]; exact (decide_eq_false fun hc => hc.2 h).symm) | apply And.intro)
    all_goals first | trivial | omega
  · rw [decide_eq_false h]
    have e : decide (Ll.len a = Ll.len b) = sameL2 a b := by
      rw [c0]
      by_cases h2 : a.length = b.length
      · rw [decide_eq_true (show Ll.len a = Ll.len b by omega), decide_eq_true ⟨h2, h⟩]
      · rw [decide_eq_false (show ¬ Ll.len a = Ll.len b by omega), decide_eq_false fun hc => h2 hc.1]
    repeat' (first | exact end_b e | apply And.intro)
    all_goals first | trivial | omega
abbrev sameS {A : Go.Rx.Alg} : List (Go.Rx.SV A) → Go.Rx.SH A → Nat → Go.Rx.KS A → A.R := fun args_ M_ snx_ K_ => match args_ with
  | [.agg [x_a], .agg [x_b]] => (match Go.Rx.lsArg M_ [.int .i64, .int .i64] x_a with | some (a, n_a) => (A.need .eql n_a (A.len a) (match Go.Rx.lsArg M_ [.int .i64, .int .i64] x_b with | some (b, n_b) => (A.need .eql n_b (A.len b) (A.need .leq (A.len a) (A.lit 1000000) (K_ (.b (A.appB 30 [a, b] [])) M_ snx_ []))) | none => A.fail "same")) | none => A.fail "same")
  | _ => A.fail "same"
theorem sameS_ok {ov : Bool} {d : Nat} (hd : 200 ≤ d) : SpecOK (fs := fsh) (ov := ov) Try.prog AW d 19 sameS := by
  intro m_ hm_ args_ M_ snx_ K_ h_ ν_ largs_ H_ nx_ ha_ hM_
  unfold sameS at h_
  split at h_
  · rename_i x_a x_b
    obtain ⟨y1, r1, rfl, ⟨l1, rfl, ⟨v_a, r2, rfl, hx_a, rfl⟩⟩, ⟨y3, r3, rfl, ⟨l3, rfl, ⟨v_b, r4, rfl, hx_b, rfl⟩⟩, rfl⟩⟩ := ha_
    split at h_
    · rename_i a n_a q_a
      obtain ⟨e_a, h_⟩ := h_
      split at h_
      · rename_i b n_b q_b
        obtain ⟨e_b, h_⟩ := h_
        obtain ⟨p1, h_⟩ := h_
        exact pure_got (same_pure (by omega) (lsArg_ok hM_ hx_a q_a e_a) (lsArg_ok hM_ hx_b q_b e_b) p1) hM_ (v := .b _) rfl h_
      · exact h_.elim
    · exact h_.elim
  · exact h_.elim
end Go.Proofs.Ytgjnkdedknpniaa
