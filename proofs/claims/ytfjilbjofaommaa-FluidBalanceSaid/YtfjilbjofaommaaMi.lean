/-
  Layer 3: the places and heights of holes.
-/
import Derived.Test.YtfjilbjofaommaaMh
set_option linter.unusedSimpArgs false
set_option linter.unusedVariables false
set_option maxRecDepth 100000
namespace Go.Proofs.Ytfjilbjofaommaa
open Go Go.Rx

abbrev spB {A : Go.Rx.Alg} : Go.Rx.SpL A := [(AW, Go.Rx.awakeS), (38, chkS), (49, rchkS), (20, volS), (28, rvolS)]
theorem spB_ok {ov : Bool} {d : Nat} (hd : 300 ≤ d) : SpOK (fs := fsh) (ov := ov) Try.prog AW d spB := SpOK.cons awake_ok (SpOK.cons (chkS_ok (by omega)) (SpOK.cons (rchkS_ok (by omega)) (SpOK.cons (volS_ok (by omega)) (SpOK.cons (rvolS_ok (by omega)) SpOK.nil))))
theorem spB_aw {fs : Fs} {ov : Bool} : (spOf (A := stdA fs ov) spB AW).isSome = true := rfl


theorem wa_eq (u i f v : Int) (l : Ll) (T : Al (SV (stdA fsh true))) (M : Al (SO (stdA fsh true))) (KK : Ex → List (SV (stdA fsh true)) → List (SO (stdA fsh true)) → List Ll → Prop) : sCode Try.prog (sCall Try.prog 30 (spOf sp0) noLoop 20) ⟨53, false, noLoop 53⟩ 30 (false :: [false, true, true]) (bodyAt Try.prog 53 [false, true, true]) (hdL (bodyAt Try.prog 53 [false, true, true]) T M 32 6 [(0, .yld 5), (8, .ls false 0 (Ll.len l)), (9, .i .i64 (Ll.len l))] [(0, .list 0 [.int .i64, .int .i64, .int .i64, .int .i64] false l), (2, .row 2 [.i .i64 u])] [(3, .i .i64 f), (10, .i .i64 i)] [(3, .row 3 [.i .i64 v]), (5, .frm 40 [false, true, false, true, true, true] 31 (.c 3 (some (.p 2 0)) (.c 5 (some (.p 3 0)) .l)) false .normal)] [] [] []) (outL 6 (tsOf [3, 10] []) [3, 5] [] [] KK) =
  (cond (decide (i < (Ll.len l)))
 ((0 : Int) ≤ i ∧ (i < (Ll.len l) ∧ (i < (Ll.len l) ∧ (InK .i64 ((Ll.get l i 0) * (Ll.get l i 2)) ∧ (InK .i64 (f + ((Ll.get l i 0) * (Ll.get l i 2))) ∧ (cond (decide (f ≤ u))
 (InK .i64 (i + (1 : Int)) ∧ (KK .normal [(.i .i64 (f + ((Ll.get l i 0) * (Ll.get l i 2)))), (.i .i64 (i + (1 : Int)))] [(.row 3 [(.i .i64 i)]), (.frm 40 [false, true, false, true, true, true] 31 (.c 3 (some (.p 2 0)) (.c 5 (some (.p 3 0)) .l)) false .normal)] []))
 (InK .i64 (i + (1 : Int)) ∧ (KK .normal [(.i .i64 (f + ((Ll.get l i 0) * (Ll.get l i 2)))), (.i .i64 (i + (1 : Int)))] [(.row 3 [(.i .i64 v)]), (.frm 40 [false, true, false, true, true, true] 31 (.c 3 (some (.p 2 0)) (.c 5 (some (.p 3 0)) .l)) false .normal)] []))))))))
 (KK (.exit 0) [(.i .i64 f), (.i .i64 i)] [(.row 3 [(.i .i64 v)]), (.frm 40 [false, true, false, true, true, true] 31 (.c 3 (some (.p 2 0)) (.c 5 (some (.p 3 0)) .l)) false .normal)] [])) := by kernel_rfl
theorem wa_go (u : Int) (l : Ll) (i : Int) (f : Int) (v : Int) (i_0 : Int) (f_0 : Int) (v_0 : Int) (r1 : i_0 = (0 : Int)) (r2 : f_0 = (0 : Int)) (r3 : v_0 = (-1 : Int)) (T : Al (SV (stdA fsh true))) (M : Al (SO (stdA fsh true))) (KK : Ex → List (SV (stdA fsh true)) → List (SO (stdA fsh true)) → List Ll → Prop) (p1 : (holeE l) = (0 : Int)) (p2 : (0 : Int) ≤ u) (hI : 0 ≤ i ∧ i ≤ l.length ∧ f = volN l i.toNat ∧ v = wAt l u i) (hn : ∀ (i' : Int) (f' : Int) (v' : Int), 0 ≤ i' ∧ i' ≤ l.length ∧ f' = volN l i'.toNat ∧ v' = wAt l u i' → (20 - i').toNat < (20 - i).toNat → KK .normal [.i .i64 f', .i .i64 i'] [.row 3 [.i .i64 v'], .frm 40 [false, true, false, true, true, true] 31 (.c 3 (some (.p 2 0)) (.c 5 (some (.p 3 0)) .l)) false .normal] []) (hx1 : KK (.exit 0) [.i .i64 (volN l l.length), .i .i64 (Ll.len l)] [.row 3 [.i .i64 (whI l u)], .frm 40 [false, true, false, true, true, true] 31 (.c 3 (some (.p 2 0)) (.c 5 (some (.p 3 0)) .l)) false .normal] []) :
    sCode Try.prog (sCall Try.prog 30 (spOf sp0) noLoop 20) ⟨53, false, noLoop 53⟩ 30 (false :: [false, true, true]) (bodyAt Try.prog 53 [false, true, true]) (hdL (bodyAt Try.prog 53 [false, true, true]) T M 32 6 [(0, .yld 5), (8, .ls false 0 (Ll.len l)), (9, .i .i64 (Ll.len l))] [(0, .list 0 [.int .i64, .int .i64, .int .i64, .int .i64] false l), (2, .row 2 [.i .i64 u])] [(3, .i .i64 f), (10, .i .i64 i)] [(3, .row 3 [.i .i64 v]), (5, .frm 40 [false, true, false, true, true, true] 31 (.c 3 (some (.p 2 0)) (.c 5 (some (.p 3 0)) .l)) false .normal)] [] [] []) (outL 6 (tsOf [3, 10] []) [3, 5] [] [] KK) := by
  refine Eq.mpr (wa_eq u i f v l T M KK) ?_
  simp only [cond_iff, InK64]
  obtain ⟨i0, i1, rfl, rfl⟩ := hI
  have hl : Ll.len l = (l.length : Int) := rfl
  have p0 : HoleOK l := hole_of p1
  have hlen := p0.len
  have hw := whN_spec l u
  have w0 : ∀ j, wAt l u j = if j = 0 then -1 else if j - 1 ≤ whN l u then j - 1 else whN l u := fun _ => rfl
  by_cases h : i < Ll.len l
  · have ha := p0.at i0 (by omega)
    have hb := p0.b (n := i.toNat) (by omega)
    have hm := mul_bd (show 0 ≤ Ll.get l i 0 by omega) ha.1.2 (show 0 ≤ Ll.get l i 2 by omega) ha.2.2.2.2.1
    have e := volN_succ (l := l) i0
    have e3 := risN_succ (l := l) i0
    have e1 : (i + 1).toNat = i.toNat + 1 := by omega
    have hf := from_le p0 p2 (i := i.toNat) (by omega)
    rw [Int.toNat_of_nonneg i0] at hf
    have hY : volN l i.toNat ≤ u → KK .normal [.i .i64 (volN l i.toNat + Ll.get l i 0 * Ll.get l i 2), .i .i64 (i + 1)] [.row 3 [.i .i64 i], .frm 40 [false, true, false, true, true, true] 31 (.c 3 (some (.p 2 0)) (.c 5 (some (.p 3 0)) .l)) false .normal] [] := fun h2 => by
      have := hn (i + 1) _ (wAt l u (i + 1)) ⟨by omega, by omega, by rw [e1, e], rfl⟩ (by omega)
      rw [show wAt l u (i + 1) = i from by have := hf.1 h2; rw [w0, if_neg (by omega), if_pos (by omega)]; omega] at this
      exact this
    have hN : ¬ volN l i.toNat ≤ u → KK .normal [.i .i64 (volN l i.toNat + Ll.get l i 0 * Ll.get l i 2), .i .i64 (i + 1)] [.row 3 [.i .i64 (wAt l u i)], .frm 40 [false, true, false, true, true, true] 31 (.c 3 (some (.p 2 0)) (.c 5 (some (.p 3 0)) .l)) false .normal] [] := fun h2 => by
      have hf2 : ¬ i ≤ whN l u := fun hc => h2 (hf.2 hc)
      have := hn (i + 1) _ (wAt l u i) ⟨by omega, by omega, by rw [e1, e], by
        rw [w0, w0]; repeat' split
        all_goals omega⟩ (by omega)
      exact this
    generalize Ll.get l i 0 * Ll.get l i 2 = m at *
    repeat' (first | apply And.intro | intro _)
    all_goals first | trivial | omega | exact hY (by assumption) | exact hN (by assumption)
  · obtain rfl : i = l.length := by omega
    have ew : wAt l u l.length = whI l u := by
      rw [w0, whI]; repeat' split
      all_goals omega
    rw [ew, Int.toNat_natCast]
    repeat' (first | apply And.intro | intro _)
    all_goals first | trivial | omega | exact hx1
abbrev waF {A : Go.Rx.Alg} : Code → Go.Rx.SS A → (Go.Rx.Ex → Go.Rx.SS A → A.R) → A.R := fun c_ s_ K_ => match s_.T.get 0, s_.T.get 8, s_.T.get 9, s_.H.get 0, s_.H.get 2, s_.T.get 3, s_.T.get 10, s_.H.get 3, s_.H.get 5 with
  | some (.yld 5), some (.ls false 0 m1), some (.i .i64 m2), some (.list t3 k3 false l), some (.row t4 [.i .i64 u]), some (.i .i64 f), some (.i .i64 i), some (.row t5 [.i .i64 v]), some (.frm f6 p6_ n6_ T6_ false .normal) => (match T6_.get 3, T6_.get 5 with
    | some (.p 2 0), some (.p 3 0) => bif ((((((((Nat.beq s_.N 32 && Nat.beq s_.nx 6) && Nat.beq t3 0) && decide (k3 = [.int .i64, .int .i64, .int .i64, .int .i64])) && Nat.beq t4 2) && Nat.beq t5 3) && Nat.beq f6 40) && Go.Rx.samePath p6_ [false, true, false, true, true, true]) && Nat.beq n6_ 31) then (A.need .eql m1 (A.len l) (A.need .eql m2 (A.len l) (A.need .eql (A.app 1 [l] []) (A.lit 0) (A.need .leq (A.lit 0) u (A.need .eql i (A.lit 0) (A.need .eql f (A.lit 0) (A.need .eql v (A.lit (-1)) (K_ (.exit 0) (Go.Rx.hdL c_ s_.T (Go.Rx.kills [] (s_.H.set 5 (some (.frm 40 [false, true, false, true, true, true] 31 (.c 3 (some (.p 2 0)) (.c 5 (some (.p 3 0)) .l)) false .normal)))) 32 6 [(0, .yld 5), (8, .ls false 0 (A.len l)), (9, .i .i64 (A.len l))] [(0, .list 0 [.int .i64, .int .i64, .int .i64, .int .i64] false l), (2, .row 2 [.i .i64 u])] [(3, .i .i64 (A.app 8 [l] [])), (10, .i .i64 (A.len l))] [(3, .row 3 [.i .i64 (A.app 11 [l] [u])]), (5, .frm 40 [false, true, false, true, true, true] 31 (.c 3 (some (.p 2 0)) (.c 5 (some (.p 3 0)) .l)) false .normal)] [] [] (Go.Rx.addW ([] ++ [3, 5]) s_.wr)))))))))) else A.fail "frame of wa"
    | _, _ => A.fail "slots of wa")
  | _, _, _, _, _, _, _, _, _ => A.fail "wa"
theorem waF_ok {d : Nat} (hd : 100 ≤ d) : LoopOK (fs := fsh) (ov := true) Try.prog AW d 53 [false, true, true] false waF := by
  intro m_ hm_ fn_ c0_ hfn_ hb_ c_ ro_ hro_ hc_ s_ K_ W_ ν_ S_ h_ hs_
  obtain rfl := body_of hfn_ hb_ hc_
  unfold waF at h_
  split at h_
  · rename_i m1_0 m2_0 t3 k3 l_0 t4 u_0 f_0_0 i_0_0 t5 v_0_0 f6 p6_ n6_ T6_ g0 g1 g2 g3 g4 g5 g6 g7 g8
    split at h_
    rotate_left
    · exact h_.elim
    rename_i z0 z1
    obtain ⟨m1, rfl⟩ : ∃ q : Int, q = m1_0 := ⟨m1_0, rfl⟩
    obtain ⟨m2, rfl⟩ : ∃ q : Int, q = m2_0 := ⟨m2_0, rfl⟩
    obtain ⟨l, rfl⟩ : ∃ q : Ll, q = l_0 := ⟨l_0, rfl⟩
    obtain ⟨u, rfl⟩ : ∃ q : Int, q = u_0 := ⟨u_0, rfl⟩
    obtain ⟨f_0, rfl⟩ : ∃ q : Int, q = f_0_0 := ⟨f_0_0, rfl⟩
    obtain ⟨i_0, rfl⟩ : ∃ q : Int, q = i_0_0 := ⟨i_0_0, rfl⟩
    obtain ⟨v_0, rfl⟩ : ∃ q : Int, q = v_0_0 := ⟨v_0_0, rfl⟩
    obtain ⟨T_, FN_, M_, snx_, wr_⟩ := s_
    have hN : ((((((((Nat.beq FN_ 32 && Nat.beq snx_ 6) && Nat.beq t3 0) && decide (k3 = [.int .i64, .int .i64, .int .i64, .int .i64])) && Nat.beq t4 2) && Nat.beq t5 3) && Nat.beq f6 40) && Go.Rx.samePath p6_ [false, true, false, true, true, true]) && Nat.beq n6_ 31) = true := by
      cases hq : (((((((((Nat.beq FN_ 32 && Nat.beq snx_ 6) && Nat.beq t3 0) && decide (k3 = [.int .i64, .int .i64, .int .i64, .int .i64])) && Nat.beq t4 2) && Nat.beq t5 3) && Nat.beq f6 40) && Go.Rx.samePath p6_ [false, true, false, true, true, true]) && Nat.beq n6_ 31) : Bool) with
      | true => rfl
      | false => (rw [hq] at h_; exact h_.elim)
    rw [hN, cond_true] at h_
    simp only [Bool.and_eq_true, beq_iff, decide_eq_true_eq] at hN
    obtain ⟨⟨⟨⟨⟨⟨⟨⟨rfl, rfl⟩, rfl⟩, rfl⟩, rfl⟩, rfl⟩, rfl⟩, hsp_⟩, rfl⟩ := hN
    obtain rfl := samePath_ok hsp_
    obtain ⟨q0, h_⟩ := h_
    obtain rfl : m1 = (Ll.len l) := q0
    obtain ⟨q0, h_⟩ := h_
    obtain rfl : m2 = (Ll.len l) := q0
    obtain ⟨q1, h_⟩ := h_
    have q1 : (holeE l) = (0 : Int) := q1
    obtain ⟨q2, h_⟩ := h_
    have q2 : (0 : Int) ≤ u := q2
    obtain ⟨q3, h_⟩ := h_
    have q3 : i_0 = (0 : Int) := q3
    obtain ⟨q4, h_⟩ := h_
    have q4 : f_0 = (0 : Int) := q4
    obtain ⟨q5, h_⟩ := h_
    have q5 : v_0 = (-1 : Int) := q5
    have hs2_ := sim_frm hs_ (kt := [(3, .p 2 0), (5, .p 3 0)]) g8 (fun x hx => by
      simp only [List.mem_cons, List.not_mem_nil, or_false] at hx
      rcases hx with rfl | rfl
      · exact z0
      · exact z1)
    replace hs2_ : Sim W_ ν_ ⟨T_, 32, Al.set M_ 5 (some (.frm 40 [false, true, false, true, true, true] 31 (.c 3 (some (.p 2 0)) (.c 5 (some (.p 3 0)) .l)) false .normal)), 6, wr_⟩ S_ := hs2_
    refine GoC.know (s' := ⟨T_, 32, Al.set M_ 5 (some (.frm 40 [false, true, false, true, true, true] 31 (.c 3 (some (.p 2 0)) (.c 5 (some (.p 3 0)) .l)) false .normal)), 6, wr_⟩) ⟨rfl, rfl⟩ ?_
    have w3 := (Al.get_set_ne M_ (some (.frm 40 [false, true, false, true, true, true] 31 (.c 3 (some (.p 2 0)) (.c 5 (some (.p 3 0)) .l)) false .normal)) (show 0 ≠ 5 by decide)).trans g3
    have w4 := (Al.get_set_ne M_ (some (.frm 40 [false, true, false, true, true, true] 31 (.c 3 (some (.p 2 0)) (.c 5 (some (.p 3 0)) .l)) false .normal)) (show 2 ≠ 5 by decide)).trans g4
    have w7 := (Al.get_set_ne M_ (some (.frm 40 [false, true, false, true, true, true] 31 (.c 3 (some (.p 2 0)) (.c 5 (some (.p 3 0)) .l)) false .normal)) (show 3 ≠ 5 by decide)).trans g7
    have w8 : (Al.set M_ 5 (some (.frm 40 [false, true, false, true, true, true] 31 (.c 3 (some (.p 2 0)) (.c 5 (some (.p 3 0)) .l)) false .normal))).get 5 = some (.frm 40 [false, true, false, true, true, true] 31 (.c 3 (some (.p 2 0)) (.c 5 (some (.p 3 0)) .l)) false .normal) := Al.get_set_same _ _ _
    replace h_ : K_ (.exit 0) (hdL (bodyAt Try.prog 53 [false, true, true]) T_ (kills [] (Al.set M_ 5 (some (.frm 40 [false, true, false, true, true, true] 31 (.c 3 (some (.p 2 0)) (.c 5 (some (.p 3 0)) .l)) false .normal)))) 32 6 [(0, .yld 5), (8, .ls false 0 (Ll.len l)), (9, .i .i64 (Ll.len l))] [(0, .list 0 [.int .i64, .int .i64, .int .i64, .int .i64] false l), (2, .row 2 [.i .i64 u])] [(3, .i .i64 (volN l l.length)), (10, .i .i64 (Ll.len l))] [(3, .row 3 [.i .i64 (whI l u)]), (5, .frm 40 [false, true, false, true, true, true] 31 (.c 3 (some (.p 2 0)) (.c 5 (some (.p 3 0)) .l)) false .normal)] [] [] (addW ([] ++ [3, 5]) wr_)) := h_
    obtain ⟨M2_, hM2_⟩ : ∃ M2_, M2_ = (Al.set M_ 5 (some (.frm 40 [false, true, false, true, true, true] 31 (.c 3 (some (.p 2 0)) (.c 5 (some (.p 3 0)) .l)) false .normal))) := ⟨_, rfl⟩
    rw [← hM2_] at h_ hs2_ w3 w4 w7 w8 ⊢
    have hx1 : K_ (.exit 0) (hdL (bodyAt Try.prog 53 [false, true, true]) T_ (kills [] M2_) 32 6 [(0, .yld 5), (8, .ls false 0 (Ll.len l)), (9, .i .i64 (Ll.len l))] [(0, .list 0 [.int .i64, .int .i64, .int .i64, .int .i64] false l), (2, .row 2 [.i .i64 u])] [(3, .i .i64 (volN l l.length)), (10, .i .i64 (Ll.len l))] [(3, .row 3 [.i .i64 (whI l u)]), (5, .frm 40 [false, true, false, true, true, true] 31 (.c 3 (some (.p 2 0)) (.c 5 (some (.p 3 0)) .l)) false .normal)] [] [] (addW ([] ++ [3, 5]) wr_)) := by
      have h2 := h_
      exact h2
    refine loop_ruleL (fs := fsh) (ov := true) (s := ⟨T_, 32, M2_, 6, wr_⟩) (X := Int × Int × Int) (B := [3, 5]) (mv := []) (kt := [(0, .yld 5), (8, .ls false 0 (Ll.len l)), (9, .i .i64 (Ll.len l))]) (kr := [(0, .list 0 [.int .i64, .int .i64, .int .i64, .int .i64] false l), (2, .row 2 [.i .i64 u])]) (ty := []) (x := (i_0, f_0, v_0))
      (Inv := (fun x_ : Int × Int × Int => match x_ with | (i, f, v) => 0 ≤ i ∧ i ≤ l.length ∧ f = volN l i.toNat ∧ v = wAt l u i)) (μ := (fun x_ : Int × Int × Int => match x_ with | (i, f, v) => (20 - i).toNat)) (ts := tsOf [3, 10] []) (sl := (fun x_ : Int × Int × Int => match x_ with | (i, f, v) => [.i .i64 f, .i .i64 i])) (bl := (fun x_ : Int × Int × Int => match x_ with | (i, f, v) => [.row 3 [.i .i64 v], .frm 40 [false, true, false, true, true, true] 31 (.c 3 (some (.p 2 0)) (.c 5 (some (.p 3 0)) .l)) false .normal])) (ll := (fun x_ : Int × Int × Int => match x_ with | (i, f, v) => [])) (Q := fun e_ vs_ os_ hs2_ => K_ e_ (hdL (bodyAt Try.prog 53 [false, true, true]) T_ (kills [] M2_) 32 6 [(0, .yld 5), (8, .ls false 0 (Ll.len l)), (9, .i .i64 (Ll.len l))] [(0, .list 0 [.int .i64, .int .i64, .int .i64, .int .i64] false l), (2, .row 2 [.i .i64 u])] (((tsOf [3, 10] []) e_).zip vs_) ([3, 5].zip os_) [] hs2_ (addW ([] ++ [3, 5]) wr_)))
      (L := LL) (U := 30) (cs := sCall Try.prog 30 (spOf sp0) noLoop 20) (call := CN Try.prog AW m_) (lp := ⟨53, false, noLoop 53⟩) (root := c0_) (p := [false, true, true])
      (show CallSOK _ _ from by
        have := sCall_ok (P := Try.prog) (d := m_ - 20) (U := 30) (lp := noLoop) (sp0_ok (fs := fsh) (ov := true) (d := m_ - 20)) (sp0_aw (fs := fsh) (ov := true)) (noLoop_ok) (by decide) rfl 20
        rwa [show 20 + (m_ - 20) = m_ by omega] at this) (ctx_of (g := 53) (rg := false) (at_ := noLoop 53) (fun p rg f h => by cases h) hfn_ hb_ hro_) (by decide) hc_
      (by
        rintro ⟨i, f, v⟩ o ho
        simp only [List.mem_cons, List.not_mem_nil, or_false] at ho
        rcases ho with rfl | rfl
        · rfl
        · rfl)
      (fun x hx => by
        simp only [List.mem_cons, List.not_mem_nil, or_false] at hx
        rcases hx with rfl | rfl
        · exact ⟨_, w7, rfl⟩
        · exact ⟨_, w8, rfl⟩) (fun x hx => by cases hx) (fun x hx => by
        simp only [List.mem_cons, List.not_mem_nil, or_false] at hx
        rcases hx with rfl | rfl
        · simp
        · simp)
      (fun x hx => by
        simp only [List.mem_cons, List.not_mem_nil, or_false] at hx
        rcases hx with rfl | rfl | rfl
        · exact g0
        · exact g1
        · exact g2) (fun x hx => by
        simp only [List.mem_cons, List.not_mem_nil, or_false] at hx
        rcases hx with rfl | rfl
        · exact ⟨w3, by simp⟩
        · exact ⟨w4, by simp⟩) ?_ (fun _ _ _ _ _ h => h) ?_ ?_ ?_ hs2_
    · rintro ⟨i, f, v⟩ hI
      exact wa_go u l i f v i_0 f_0 v_0 q3 q4 q5 T_ (kills [] M2_) _ q1 q2 hI (fun i' f' v' ha hb => ⟨(i', f', v'), ha, hb, rfl, rfl, rfl⟩) (⟨by simp [SO.mine], hx1⟩)
    · show 0 ≤ i_0 ∧ i_0 ≤ l.length ∧ f_0 = volN l i_0.toNat ∧ v_0 = wAt l u i_0
      have p0 := hole_of q1
      exact ⟨by omega, by omega, by rw [q3, q4]; rfl, by rw [q5, q3]; rfl⟩
    · show (20 - i_0).toNat < LL
      exact Nat.lt_of_le_of_lt (show _ ≤ 1000 by omega) (by decide)
    · exact ⟨⟨[.i .i64 f_0, .i .i64 i_0], [.row 3 [.i .i64 v_0], .frm 40 [false, true, false, true, true, true] 31 (.c 3 (some (.p 2 0)) (.c 5 (some (.p 3 0)) .l)) false .normal], [], [], by simp [gets, tsOf, g0, g1, g2, w3, w4, g5, g6, w7, w8], by simp [gets, g0, g1, g2, w3, w4, g5, g6, w7, w8], rfl, rfl, by simp [listsOf] <;> rfl⟩⟩
  · exact h_.elim
abbrev lpW {A : Go.Rx.Alg} : Nat → Go.Rx.LoopS A := Go.Rx.lpOf [(53, [false, true, true], false, waF)]
theorem lpW_ok {d : Nat} (hd : 100 ≤ d) : LoopsAll (fs := fsh) (ov := true) Try.prog AW d lpW := lpOf_ok fun x hx => by
  simp only [List.mem_cons, List.not_mem_nil, or_false] at hx
  rcases hx with rfl
  · exact waF_ok (by omega)
theorem where_eq (u : Int) (l : Ll) (KK : KS (stdA fsh true)) : sFunc Try.prog 30 (sCall Try.prog 30 (spOf spB) lpW 20) lpW 40 [.agg [.ls false 0 (Ll.len l)], .i .i64 u] (lsMem 0 [([.int .i64, .int .i64, .int .i64, .int .i64], l)]) 1 KK =
  (cond (decide (u < (0 : Int)))
 (KK (.i .i64 (-1 : Int)) (lsMem 0 [([.int .i64, .int .i64, .int .i64, .int .i64], l)]) 1 [])
 ((Ll.len l) = (Ll.len l) ∧ (cond (decide (u > (holeV l)))
 (KK (.i .i64 (-1 : Int)) (lsMem 0 [([.int .i64, .int .i64, .int .i64, .int .i64], l)]) 1 [])
 ((Ll.len l) = (Ll.len l) ∧ (cond (decide ((holeE l) ≠ (0 : Int)))
 (KK (.i .i64 (-1 : Int)) (lsMem 0 [([.int .i64, .int .i64, .int .i64, .int .i64], l)]) 1 [])
 ((Ll.len l) = (Ll.len l) ∧ ((Ll.len l) = (Ll.len l) ∧ ((holeE l) = (0 : Int) ∧ ((0 : Int) ≤ u ∧ ((0 : Int) = (0 : Int) ∧ ((0 : Int) = (0 : Int) ∧ ((-1 : Int) = (-1 : Int) ∧ (KK (.i .i64 (whI l u)) (lsMem 0 [([.int .i64, .int .i64, .int .i64, .int .i64], l)]) 1 []))))))))))))) := by kernel_rfl
theorem where_pure {m : Nat} (hm : 400 ≤ m) {H : Hp} {nx : Nat} (u : Int) {v_l : LV} {l : Ll} (hl_l : IsL H nx [.int .i64, .int .i64, .int .i64, .int .i64] l v_l) : Pure Try.prog AW m 40 [.agg [v_l], .i .i64 u] H nx (.i .i64 (whereI l u)) := by
  obtain ⟨ν, n1, n2, n3, n4⟩ := ls_in (fs := fsh) (ov := true) (l := [([.int .i64, .int .i64, .int .i64, .int .i64], l)]) (lvs := [v_l]) 0 (fun i x lv e1 e2 => by
    cases i with
    | zero => simp at e1 e2; subst e1 e2; exact hl_l
    | succ i =>
      simp at e1) rfl
  refine pure_of (n := 20) (d := m - 21) (U := 30) (fs := fsh) (ov := true) (spB_ok (by omega)) spB_aw (lpW_ok (by omega)) (by decide) (by decide) (by omega) (args := [.agg [.ls false 0 (Ll.len l)], .i .i64 u]) (M := lsMem 0 [([.int .i64, .int .i64, .int .i64, .int .i64], l)]) (snx := 1) ?_ (VSL.cons ⟨_, rfl, (VSL.cons (n4 0 _ _ rfl rfl) rfl)⟩ (VSL.cons rfl rfl)) (hs_in n2 n3)
  rw [where_eq]
  simp only [cond_iff, InK64]
  have hl : Ll.len l = (l.length : Int) := rfl
  have c0 : holeV l = if holeE l = 0 then volN l l.length else 0 := rfl
  have c1 : whereI l u = if holeE l = 0 ∧ 0 ≤ u ∧ u ≤ volN l l.length then whI l u else -1 := rfl
  have c3 : holeE l = 0 → 1 ≤ l.length ∧ l.length ≤ 16 := fun h => (hole_of h).len
  by_cases hz : holeE l = 0
  · have c3 := c3 hz
    rw [if_pos hz] at c0
    repeat' (first | apply And.intro | intro _)
    all_goals first
      | trivial
      | omega
      | (refine end_i ?_; show _ = whereI l u; rw [c1]; split
         all_goals first | rfl | omega)
  · repeat' (first | apply And.intro | intro _)
    all_goals first
      | trivial
      | omega
      | (refine end_i ?_; show _ = whereI l u; rw [c1, if_neg (by omega)])
abbrev whereS {A : Go.Rx.Alg} : List (Go.Rx.SV A) → Go.Rx.SH A → Nat → Go.Rx.KS A → A.R := fun args_ M_ snx_ K_ => match args_ with
  | [.agg [x_l], .i .i64 u] => (match Go.Rx.lsArg M_ [.int .i64, .int .i64, .int .i64, .int .i64] x_l with | some (l, n_l) => (A.need .eql n_l (A.len l) (K_ (.i .i64 (A.app 3 [l] [u])) M_ snx_ [])) | none => A.fail "where")
  | _ => A.fail "where"
theorem whereS_ok {ov : Bool} {d : Nat} (hd : 400 ≤ d) : SpecOK (fs := fsh) (ov := ov) Try.prog AW d 40 whereS := by
  intro m_ hm_ args_ M_ snx_ K_ h_ ν_ largs_ H_ nx_ ha_ hM_
  unfold whereS at h_
  split at h_
  · rename_i x_l u
    obtain ⟨y1, r1, rfl, ⟨l1, rfl, ⟨v_l, r2, rfl, hx_l, rfl⟩⟩, ⟨y3, r3, rfl, rfl, rfl⟩⟩ := ha_
    split at h_
    · rename_i l n_l q_l
      obtain ⟨e_l, h_⟩ := h_
      exact pure_got (where_pure (by omega) u (lsArg_ok hM_ hx_l q_l e_l)) hM_ (v := .i .i64 _) rfl h_
    · exact h_.elim
  · exact h_.elim



theorem ha_eq (i f v : Int) (l g : Ll) (T : Al (SV (stdA fsh true))) (M : Al (SO (stdA fsh true))) (KK : Ex → List (SV (stdA fsh true)) → List (SO (stdA fsh true)) → List Ll → Prop) : sCode Try.prog (sCall Try.prog 30 (spOf sp0) noLoop 20) ⟨53, false, noLoop 53⟩ 30 (false :: [false, true, true]) (bodyAt Try.prog 53 [false, true, true]) (hdL (bodyAt Try.prog 53 [false, true, true]) T M 32 8 [(0, .yld 7), (8, .ls false 0 (Ll.len l)), (9, .i .i64 (Ll.len l))] [(0, .list 0 [.int .i64, .int .i64, .int .i64, .int .i64] false l)] [(3, .i .i64 f), (10, .i .i64 i)] [(4, .row 64 [.ls true 8 (Ll.len g)]), (5, .row 2 [.i .i64 v]), (7, .frm 29 [false, true, false, true, true, true, true] 33 (.c 3 (some (.p 4 0)) (.c 4 (some (.p 5 0)) .l)) false .normal)] [(82, [.int .i64, .int .i64])] [g] []) (outL 8 (tsOf [3, 10] []) [4, 5, 7] [3] [(82, [.int .i64, .int .i64])] KK) =
  (cond (decide (i < (Ll.len l)))
 ((0 : Int) ≤ i ∧ (i < (Ll.len l) ∧ (i < (Ll.len l) ∧ (InK .i64 ((Ll.get l i 0) * (Ll.get l i 2)) ∧ (InK .i64 (f + ((Ll.get l i 0) * (Ll.get l i 2))) ∧ (InK .i64 (v + (Ll.get l i 1)) ∧ ((Ll.len g) = (Ll.len g) ∧ ((Ll.len (g ++ [[(f + ((Ll.get l i 0) * (Ll.get l i 2))), (v + (Ll.get l i 1))]])) ≤ (1000000 : Int) ∧ (InK .i64 (i + (1 : Int)) ∧ (KK .normal [(.i .i64 (f + ((Ll.get l i 0) * (Ll.get l i 2)))), (.i .i64 (i + (1 : Int)))] [(.row 64 [(.ls true 8 (Ll.len (g ++ [[(f + ((Ll.get l i 0) * (Ll.get l i 2))), (v + (Ll.get l i 1))]])))]), (.row 2 [(.i .i64 (v + (Ll.get l i 1)))]), (.frm 29 [false, true, false, true, true, true, true] 33 (.c 3 (some (.p 4 0)) (.c 4 (some (.p 5 0)) .l)) false .normal)] [(g ++ [[(f + ((Ll.get l i 0) * (Ll.get l i 2))), (v + (Ll.get l i 1))]])]))))))))))
 (KK (.exit 0) [(.i .i64 f), (.i .i64 i)] [(.row 64 [(.ls true 8 (Ll.len g))]), (.row 2 [(.i .i64 v)]), (.frm 29 [false, true, false, true, true, true, true] 33 (.c 3 (some (.p 4 0)) (.c 4 (some (.p 5 0)) .l)) false .normal)] [g])) := by kernel_rfl
theorem ha_go (l : Ll) (i : Int) (f : Int) (v : Int) (g : Ll) (i_0 : Int) (f_0 : Int) (v_0 : Int) (r1 : i_0 = (0 : Int)) (r2 : f_0 = (0 : Int)) (r3 : v_0 = (0 : Int)) (T : Al (SV (stdA fsh true))) (M : Al (SO (stdA fsh true))) (KK : Ex → List (SV (stdA fsh true)) → List (SO (stdA fsh true)) → List Ll → Prop) (p1 : (holeE l) = (0 : Int)) (hI : 0 ≤ i ∧ i ≤ l.length ∧ f = volN l i.toNat ∧ v = risN l i.toNat ∧ g = hgtP l i.toNat) (hn : ∀ (i' : Int) (f' : Int) (v' : Int) (g' : Ll), 0 ≤ i' ∧ i' ≤ l.length ∧ f' = volN l i'.toNat ∧ v' = risN l i'.toNat ∧ g' = hgtP l i'.toNat → (20 - i').toNat < (20 - i).toNat → KK .normal [.i .i64 f', .i .i64 i'] [.row 64 [.ls true 8 (Ll.len g')], .row 2 [.i .i64 v'], .frm 29 [false, true, false, true, true, true, true] 33 (.c 3 (some (.p 4 0)) (.c 4 (some (.p 5 0)) .l)) false .normal] [g']) (hx1 : KK (.exit 0) [.i .i64 (volN l l.length), .i .i64 (Ll.len l)] [.row 64 [.ls true 8 (Ll.len (hgtP l l.length))], .row 2 [.i .i64 (risN l l.length)], .frm 29 [false, true, false, true, true, true, true] 33 (.c 3 (some (.p 4 0)) (.c 4 (some (.p 5 0)) .l)) false .normal] [(hgtP l l.length)]) :
    sCode Try.prog (sCall Try.prog 30 (spOf sp0) noLoop 20) ⟨53, false, noLoop 53⟩ 30 (false :: [false, true, true]) (bodyAt Try.prog 53 [false, true, true]) (hdL (bodyAt Try.prog 53 [false, true, true]) T M 32 8 [(0, .yld 7), (8, .ls false 0 (Ll.len l)), (9, .i .i64 (Ll.len l))] [(0, .list 0 [.int .i64, .int .i64, .int .i64, .int .i64] false l)] [(3, .i .i64 f), (10, .i .i64 i)] [(4, .row 64 [.ls true 8 (Ll.len g)]), (5, .row 2 [.i .i64 v]), (7, .frm 29 [false, true, false, true, true, true, true] 33 (.c 3 (some (.p 4 0)) (.c 4 (some (.p 5 0)) .l)) false .normal)] [(82, [.int .i64, .int .i64])] [g] []) (outL 8 (tsOf [3, 10] []) [4, 5, 7] [3] [(82, [.int .i64, .int .i64])] KK) := by
  refine Eq.mpr (ha_eq i f v l g T M KK) ?_
  simp only [cond_iff, InK64]
  obtain ⟨i0, i1, rfl, rfl, rfl⟩ := hI
  have hl : Ll.len l = (l.length : Int) := rfl
  have p0 : HoleOK l := hole_of p1
  have hlen := p0.len
  by_cases h : i < Ll.len l
  · have ha := p0.at i0 (by omega)
    have hb := p0.b (n := i.toNat) (by omega)
    have hm := mul_bd (show 0 ≤ Ll.get l i 0 by omega) ha.1.2 (show 0 ≤ Ll.get l i 2 by omega) ha.2.2.2.2.1
    have e := volN_succ (l := l) i0
    have e3 := risN_succ (l := l) i0
    have e1 : (i + 1).toNat = i.toNat + 1 := by omega
    have e2 : hgtP l (i + 1).toNat = hgtP l i.toNat ++ [[volN l i.toNat + Ll.get l i 0 * Ll.get l i 2, risN l i.toNat + Ll.get l i 1]] := by rw [e1, hgtP, e, e3]
    have e4 : Ll.len (hgtP l i.toNat ++ [[volN l i.toNat + Ll.get l i 0 * Ll.get l i 2, risN l i.toNat + Ll.get l i 1]]) ≤ 1000000 := by
      rw [← e2]; show ((List.length _ : Nat) : Int) ≤ 1000000; rw [hgtP_len]; omega
    have hN := hn (i + 1) _ _ _ ⟨by omega, by omega, by rw [e1, e], by rw [e1, e3], rfl⟩ (by omega)
    rw [e2] at hN
    generalize Ll.get l i 0 * Ll.get l i 2 = m at *
    repeat' (first | apply And.intro | intro _)
    all_goals first | trivial | omega | exact e4 | exact hN
  · obtain rfl : i = l.length := by omega
    rw [Int.toNat_natCast]
    repeat' (first | apply And.intro | intro _)
    all_goals first | trivial | omega | exact hx1
theorem ha0_eq (i f v : Int) (l : Ll) (T : Al (SV (stdA fsh true))) (M : Al (SO (stdA fsh true))) (KK : Ex → List (SV (stdA fsh true)) → List (SO (stdA fsh true)) → List Ll → Prop) : sCode Try.prog (sCall Try.prog 30 (spOf sp0) noLoop 20) ⟨53, false, noLoop 53⟩ 30 (false :: [false, true, true]) (bodyAt Try.prog 53 [false, true, true]) ⟨push [(0, .yld 7), (8, .ls false 0 (Ll.len l)), (9, .i .i64 (Ll.len l)), (3, .i .i64 f), (10, .i .i64 i)] T, 32, push [(0, .list 0 [.int .i64, .int .i64, .int .i64, .int .i64] false l), (4, .row 64 [.sl 3 0 1 1]), (5, .row 2 [.i .i64 v]), (7, .frm 29 [false, true, false, true, true, true, true] 33 (.c 3 (some (.p 4 0)) (.c 4 (some (.p 5 0)) .l)) false .normal), (3, .row 82 [.i .i64 (0 : Int), .i .i64 (0 : Int)])] M, 8, []⟩ (outL 8 (tsOf [3, 10] []) [4, 5, 7] [3] [(82, [.int .i64, .int .i64])] KK) =
  (cond (decide (i < (Ll.len l)))
 ((0 : Int) ≤ i ∧ (i < (Ll.len l) ∧ (i < (Ll.len l) ∧ (InK .i64 ((Ll.get l i 0) * (Ll.get l i 2)) ∧ (InK .i64 (f + ((Ll.get l i 0) * (Ll.get l i 2))) ∧ (InK .i64 (v + (Ll.get l i 1)) ∧ ((Ll.len ([[(0 : Int), (0 : Int)]] ++ [[(f + ((Ll.get l i 0) * (Ll.get l i 2))), (v + (Ll.get l i 1))]])) ≤ (1000000 : Int) ∧ (InK .i64 (i + (1 : Int)) ∧ (KK .normal [(.i .i64 (f + ((Ll.get l i 0) * (Ll.get l i 2)))), (.i .i64 (i + (1 : Int)))] [(.row 64 [(.ls true 8 (Ll.len ([[(0 : Int), (0 : Int)]] ++ [[(f + ((Ll.get l i 0) * (Ll.get l i 2))), (v + (Ll.get l i 1))]])))]), (.row 2 [(.i .i64 (v + (Ll.get l i 1)))]), (.frm 29 [false, true, false, true, true, true, true] 33 (.c 3 (some (.p 4 0)) (.c 4 (some (.p 5 0)) .l)) false .normal)] [([[(0 : Int), (0 : Int)]] ++ [[(f + ((Ll.get l i 0) * (Ll.get l i 2))), (v + (Ll.get l i 1))]])])))))))))
 False) := by kernel_rfl
theorem ha_go0 (l : Ll) (i_0 : Int) (f_0 : Int) (v_0 : Int) (T : Al (SV (stdA fsh true))) (M : Al (SO (stdA fsh true))) (KK : Ex → List (SV (stdA fsh true)) → List (SO (stdA fsh true)) → List Ll → Prop) (p1 : (holeE l) = (0 : Int)) (p2 : i_0 = (0 : Int)) (p3 : f_0 = (0 : Int)) (p4 : v_0 = (0 : Int)) (hn : ∀ (i' : Int) (f' : Int) (v' : Int) (g' : Ll), 0 ≤ i' ∧ i' ≤ l.length ∧ f' = volN l i'.toNat ∧ v' = risN l i'.toNat ∧ g' = hgtP l i'.toNat → (20 - i').toNat < 5000 → KK .normal [.i .i64 f', .i .i64 i'] [.row 64 [.ls true 8 (Ll.len g')], .row 2 [.i .i64 v'], .frm 29 [false, true, false, true, true, true, true] 33 (.c 3 (some (.p 4 0)) (.c 4 (some (.p 5 0)) .l)) false .normal] [g']) (hx1 : KK (.exit 0) [.i .i64 (volN l l.length), .i .i64 (Ll.len l)] [.row 64 [.ls true 8 (Ll.len (hgtP l l.length))], .row 2 [.i .i64 (risN l l.length)], .frm 29 [false, true, false, true, true, true, true] 33 (.c 3 (some (.p 4 0)) (.c 4 (some (.p 5 0)) .l)) false .normal] [(hgtP l l.length)]) :
    sCode Try.prog (sCall Try.prog 30 (spOf sp0) noLoop 20) ⟨53, false, noLoop 53⟩ 30 (false :: [false, true, true]) (bodyAt Try.prog 53 [false, true, true]) ⟨push [(0, .yld 7), (8, .ls false 0 (Ll.len l)), (9, .i .i64 (Ll.len l)), (3, .i .i64 f_0), (10, .i .i64 i_0)] T, 32, push [(0, .list 0 [.int .i64, .int .i64, .int .i64, .int .i64] false l), (4, .row 64 [.sl 3 0 1 1]), (5, .row 2 [.i .i64 v_0]), (7, .frm 29 [false, true, false, true, true, true, true] 33 (.c 3 (some (.p 4 0)) (.c 4 (some (.p 5 0)) .l)) false .normal), (3, .row 82 [.i .i64 (0 : Int), .i .i64 (0 : Int)])] M, 8, []⟩ (outL 8 (tsOf [3, 10] []) [4, 5, 7] [3] [(82, [.int .i64, .int .i64])] KK) := by
  refine Eq.mpr (ha0_eq i_0 f_0 v_0 l T M KK) ?_
  simp only [cond_iff, InK64]
  obtain rfl := p2
  obtain rfl := p3
  obtain rfl := p4
  have i0 : (0 : Int) ≤ 0 := Int.le_refl _
  have hl : Ll.len l = (l.length : Int) := rfl
  have p0 : HoleOK l := hole_of p1
  have hlen := p0.len
  have hlt : (0 : Int) < Ll.len l := by omega
  have ha := p0.at i0 (by omega)
  have hm := mul_bd (show 0 ≤ Ll.get l 0 0 by omega) ha.1.2 (show 0 ≤ Ll.get l 0 2 by omega) ha.2.2.2.2.1
  have h1 : volN l 1 = Ll.get l 0 0 * Ll.get l 0 2 := by simp [volN]
  have h2 : risN l 1 = Ll.get l 0 1 := by simp [risN]
  have h3 : hgtP l (1 : Int).toNat = [[0, 0]] ++ [[Ll.get l 0 0 * Ll.get l 0 2, Ll.get l 0 1]] := by
    show [[0, 0]] ++ [[volN l 1, risN l 1]] = _
    rw [h1, h2]
  have hN := hn 1 (Ll.get l 0 0 * Ll.get l 0 2) (Ll.get l 0 1) ([[0, 0]] ++ [[Ll.get l 0 0 * Ll.get l 0 2, Ll.get l 0 1]]) ⟨by omega, by omega, h1.symm, h2.symm, h3.symm⟩ (by decide)
  simp only [Int.zero_add]
  generalize Ll.get l 0 0 * Ll.get l 0 2 = m at *
  repeat' (first | apply And.intro | intro _)
  all_goals first | exact hN | omega | (show ((2 : Nat) : Int) ≤ 1000000; omega) | trivial
abbrev haF {A : Go.Rx.Alg} : Code → Go.Rx.SS A → (Go.Rx.Ex → Go.Rx.SS A → A.R) → A.R := fun c_ s_ K_ => match s_.T.get 0, s_.T.get 8, s_.T.get 9, s_.H.get 0, s_.T.get 3, s_.T.get 10, s_.H.get 4, s_.H.get 5, s_.H.get 7, s_.H.get 3 with
  | some (.yld 7), some (.ls false 0 m1), some (.i .i64 m2), some (.list t3 k3 false l), some (.i .i64 f), some (.i .i64 i), some (.row t4 [.sl 3 0 1 1]), some (.row t5 [.i .i64 v]), some (.frm f6 p6_ n6_ T6_ false .normal), some (.row t7 [.i .i64 m8, .i .i64 m9]) => (match T6_.get 3, T6_.get 4 with
    | some (.p 4 0), some (.p 5 0) => bif (((((((((Nat.beq s_.N 32 && Nat.beq s_.nx 8) && Nat.beq t3 0) && decide (k3 = [.int .i64, .int .i64, .int .i64, .int .i64])) && Nat.beq t4 64) && Nat.beq t5 2) && Nat.beq f6 29) && Go.Rx.samePath p6_ [false, true, false, true, true, true, true]) && Nat.beq n6_ 33) && Nat.beq t7 82) then (A.need .eql m1 (A.len l) (A.need .eql m2 (A.len l) (A.need .eql m8 (A.lit 0) (A.need .eql m9 (A.lit 0) (A.need .eql (A.app 1 [l] []) (A.lit 0) (A.need .eql i (A.lit 0) (A.need .eql f (A.lit 0) (A.need .eql v (A.lit 0) (K_ (.exit 0) (Go.Rx.hdL c_ s_.T (Go.Rx.kills [3] (s_.H.set 7 (some (.frm 29 [false, true, false, true, true, true, true] 33 (.c 3 (some (.p 4 0)) (.c 4 (some (.p 5 0)) .l)) false .normal)))) 32 8 [(0, .yld 7), (8, .ls false 0 (A.len l)), (9, .i .i64 (A.len l))] [(0, .list 0 [.int .i64, .int .i64, .int .i64, .int .i64] false l)] [(3, .i .i64 (A.app 8 [l] [])), (10, .i .i64 (A.len l))] [(4, .row 64 [.ls true 8 (A.len (A.appL 51 [l] []))]), (5, .row 2 [.i .i64 (A.app 10 [l] [])]), (7, .frm 29 [false, true, false, true, true, true, true] 33 (.c 3 (some (.p 4 0)) (.c 4 (some (.p 5 0)) .l)) false .normal)] [(82, [.int .i64, .int .i64])] [(A.appL 51 [l] [])] (Go.Rx.addW ([3] ++ [4, 5, 7]) s_.wr))))))))))) else A.fail "frame of ha"
    | _, _ => A.fail "slots of ha")
  | _, _, _, _, _, _, _, _, _, _ => A.fail "ha"
theorem haF_ok {d : Nat} (hd : 100 ≤ d) : LoopOK (fs := fsh) (ov := true) Try.prog AW d 53 [false, true, true] false haF := by
  intro m_ hm_ fn_ c0_ hfn_ hb_ c_ ro_ hro_ hc_ s_ K_ W_ ν_ S_ h_ hs_
  obtain rfl := body_of hfn_ hb_ hc_
  unfold haF at h_
  split at h_
  · rename_i m1_0 m2_0 t3 k3 l_0 f_0_0 i_0_0 t4 t5 v_0_0 f6 p6_ n6_ T6_ t7 m8_0 m9_0 g0 g1 g2 g3 g4 g5 g6 g7 g8 g9
    split at h_
    rotate_left
    · exact h_.elim
    rename_i z0 z1
    obtain ⟨m1, rfl⟩ : ∃ q : Int, q = m1_0 := ⟨m1_0, rfl⟩
    obtain ⟨m2, rfl⟩ : ∃ q : Int, q = m2_0 := ⟨m2_0, rfl⟩
    obtain ⟨l, rfl⟩ : ∃ q : Ll, q = l_0 := ⟨l_0, rfl⟩
    obtain ⟨f_0, rfl⟩ : ∃ q : Int, q = f_0_0 := ⟨f_0_0, rfl⟩
    obtain ⟨i_0, rfl⟩ : ∃ q : Int, q = i_0_0 := ⟨i_0_0, rfl⟩
    obtain ⟨v_0, rfl⟩ : ∃ q : Int, q = v_0_0 := ⟨v_0_0, rfl⟩
    obtain ⟨m8, rfl⟩ : ∃ q : Int, q = m8_0 := ⟨m8_0, rfl⟩
    obtain ⟨m9, rfl⟩ : ∃ q : Int, q = m9_0 := ⟨m9_0, rfl⟩
    obtain ⟨T_, FN_, M_, snx_, wr_⟩ := s_
    have hN : (((((((((Nat.beq FN_ 32 && Nat.beq snx_ 8) && Nat.beq t3 0) && decide (k3 = [.int .i64, .int .i64, .int .i64, .int .i64])) && Nat.beq t4 64) && Nat.beq t5 2) && Nat.beq f6 29) && Go.Rx.samePath p6_ [false, true, false, true, true, true, true]) && Nat.beq n6_ 33) && Nat.beq t7 82) = true := by
      cases hq : ((((((((((Nat.beq FN_ 32 && Nat.beq snx_ 8) && Nat.beq t3 0) && decide (k3 = [.int .i64, .int .i64, .int .i64, .int .i64])) && Nat.beq t4 64) && Nat.beq t5 2) && Nat.beq f6 29) && Go.Rx.samePath p6_ [false, true, false, true, true, true, true]) && Nat.beq n6_ 33) && Nat.beq t7 82) : Bool) with
      | true => rfl
      | false => (rw [hq] at h_; exact h_.elim)
    rw [hN, cond_true] at h_
    simp only [Bool.and_eq_true, beq_iff, decide_eq_true_eq] at hN
    obtain ⟨⟨⟨⟨⟨⟨⟨⟨⟨rfl, rfl⟩, rfl⟩, rfl⟩, rfl⟩, rfl⟩, rfl⟩, hsp_⟩, rfl⟩, rfl⟩ := hN
    obtain rfl := samePath_ok hsp_
    obtain ⟨q0, h_⟩ := h_
    obtain rfl : m1 = (Ll.len l) := q0
    obtain ⟨q0, h_⟩ := h_
    obtain rfl : m2 = (Ll.len l) := q0
    obtain ⟨q0, h_⟩ := h_
    obtain rfl : m8 = (0 : Int) := q0
    obtain ⟨q0, h_⟩ := h_
    obtain rfl : m9 = (0 : Int) := q0
    obtain ⟨q1, h_⟩ := h_
    have q1 : (holeE l) = (0 : Int) := q1
    obtain ⟨q2, h_⟩ := h_
    have q2 : i_0 = (0 : Int) := q2
    obtain ⟨q3, h_⟩ := h_
    have q3 : f_0 = (0 : Int) := q3
    obtain ⟨q4, h_⟩ := h_
    have q4 : v_0 = (0 : Int) := q4
    have hs2_ := sim_frm hs_ (kt := [(3, .p 4 0), (4, .p 5 0)]) g8 (fun x hx => by
      simp only [List.mem_cons, List.not_mem_nil, or_false] at hx
      rcases hx with rfl | rfl
      · exact z0
      · exact z1)
    replace hs2_ : Sim W_ ν_ ⟨T_, 32, Al.set M_ 7 (some (.frm 29 [false, true, false, true, true, true, true] 33 (.c 3 (some (.p 4 0)) (.c 4 (some (.p 5 0)) .l)) false .normal)), 8, wr_⟩ S_ := hs2_
    refine GoC.know (s' := ⟨T_, 32, Al.set M_ 7 (some (.frm 29 [false, true, false, true, true, true, true] 33 (.c 3 (some (.p 4 0)) (.c 4 (some (.p 5 0)) .l)) false .normal)), 8, wr_⟩) ⟨rfl, rfl⟩ ?_
    have w3 := (Al.get_set_ne M_ (some (.frm 29 [false, true, false, true, true, true, true] 33 (.c 3 (some (.p 4 0)) (.c 4 (some (.p 5 0)) .l)) false .normal)) (show 0 ≠ 7 by decide)).trans g3
    have w6 := (Al.get_set_ne M_ (some (.frm 29 [false, true, false, true, true, true, true] 33 (.c 3 (some (.p 4 0)) (.c 4 (some (.p 5 0)) .l)) false .normal)) (show 4 ≠ 7 by decide)).trans g6
    have w7 := (Al.get_set_ne M_ (some (.frm 29 [false, true, false, true, true, true, true] 33 (.c 3 (some (.p 4 0)) (.c 4 (some (.p 5 0)) .l)) false .normal)) (show 5 ≠ 7 by decide)).trans g7
    have w8 : (Al.set M_ 7 (some (.frm 29 [false, true, false, true, true, true, true] 33 (.c 3 (some (.p 4 0)) (.c 4 (some (.p 5 0)) .l)) false .normal))).get 7 = some (.frm 29 [false, true, false, true, true, true, true] 33 (.c 3 (some (.p 4 0)) (.c 4 (some (.p 5 0)) .l)) false .normal) := Al.get_set_same _ _ _
    have w9 := (Al.get_set_ne M_ (some (.frm 29 [false, true, false, true, true, true, true] 33 (.c 3 (some (.p 4 0)) (.c 4 (some (.p 5 0)) .l)) false .normal)) (show 3 ≠ 7 by decide)).trans g9
    replace h_ : K_ (.exit 0) (hdL (bodyAt Try.prog 53 [false, true, true]) T_ (kills [3] (Al.set M_ 7 (some (.frm 29 [false, true, false, true, true, true, true] 33 (.c 3 (some (.p 4 0)) (.c 4 (some (.p 5 0)) .l)) false .normal)))) 32 8 [(0, .yld 7), (8, .ls false 0 (Ll.len l)), (9, .i .i64 (Ll.len l))] [(0, .list 0 [.int .i64, .int .i64, .int .i64, .int .i64] false l)] [(3, .i .i64 (volN l l.length)), (10, .i .i64 (Ll.len l))] [(4, .row 64 [.ls true 8 (Ll.len (hgtP l l.length))]), (5, .row 2 [.i .i64 (risN l l.length)]), (7, .frm 29 [false, true, false, true, true, true, true] 33 (.c 3 (some (.p 4 0)) (.c 4 (some (.p 5 0)) .l)) false .normal)] [(82, [.int .i64, .int .i64])] [(hgtP l l.length)] (addW ([3] ++ [4, 5, 7]) wr_)) := h_
    obtain ⟨M2_, hM2_⟩ : ∃ M2_, M2_ = (Al.set M_ 7 (some (.frm 29 [false, true, false, true, true, true, true] 33 (.c 3 (some (.p 4 0)) (.c 4 (some (.p 5 0)) .l)) false .normal))) := ⟨_, rfl⟩
    rw [← hM2_] at h_ hs2_ w3 w6 w7 w8 w9 ⊢
    have hx1 : K_ (.exit 0) (hdL (bodyAt Try.prog 53 [false, true, true]) T_ (kills [3] M2_) 32 8 [(0, .yld 7), (8, .ls false 0 (Ll.len l)), (9, .i .i64 (Ll.len l))] [(0, .list 0 [.int .i64, .int .i64, .int .i64, .int .i64] false l)] [(3, .i .i64 (volN l l.length)), (10, .i .i64 (Ll.len l))] [(4, .row 64 [.ls true 8 (Ll.len (hgtP l l.length))]), (5, .row 2 [.i .i64 (risN l l.length)]), (7, .frm 29 [false, true, false, true, true, true, true] 33 (.c 3 (some (.p 4 0)) (.c 4 (some (.p 5 0)) .l)) false .normal)] [(82, [.int .i64, .int .i64])] [(hgtP l l.length)] (addW ([3] ++ [4, 5, 7]) wr_)) := by
      have h2 := h_
      exact h2
    refine loop_ruleF (fs := fsh) (ov := true) (s := ⟨T_, 32, M2_, 8, wr_⟩) (X := Int × Int × Int × Ll) (B := [4, 5, 7]) (mv := [3]) (kt := [(0, .yld 7), (8, .ls false 0 (Ll.len l)), (9, .i .i64 (Ll.len l))]) (kr := [(0, .list 0 [.int .i64, .int .i64, .int .i64, .int .i64] false l)]) (kt0 := [(0, .yld 7), (8, .ls false 0 (Ll.len l)), (9, .i .i64 (Ll.len l)), (3, .i .i64 f_0), (10, .i .i64 i_0)]) (kr0 := [(0, .list 0 [.int .i64, .int .i64, .int .i64, .int .i64] false l), (4, .row 64 [.sl 3 0 1 1]), (5, .row 2 [.i .i64 v_0]), (7, .frm 29 [false, true, false, true, true, true, true] 33 (.c 3 (some (.p 4 0)) (.c 4 (some (.p 5 0)) .l)) false .normal), (3, .row 82 [.i .i64 (0 : Int), .i .i64 (0 : Int)])]) (ty := [(82, [.int .i64, .int .i64])]) (m := 5000)
      (Inv := (fun x_ : Int × Int × Int × Ll => match x_ with | (i, f, v, g) => 0 ≤ i ∧ i ≤ l.length ∧ f = volN l i.toNat ∧ v = risN l i.toNat ∧ g = hgtP l i.toNat)) (μ := (fun x_ : Int × Int × Int × Ll => match x_ with | (i, f, v, g) => (20 - i).toNat)) (ts := tsOf [3, 10] []) (sl := (fun x_ : Int × Int × Int × Ll => match x_ with | (i, f, v, g) => [.i .i64 f, .i .i64 i])) (bl := (fun x_ : Int × Int × Int × Ll => match x_ with | (i, f, v, g) => [.row 64 [.ls true 8 (Ll.len g)], .row 2 [.i .i64 v], .frm 29 [false, true, false, true, true, true, true] 33 (.c 3 (some (.p 4 0)) (.c 4 (some (.p 5 0)) .l)) false .normal])) (ll := (fun x_ : Int × Int × Int × Ll => match x_ with | (i, f, v, g) => [g])) (Q := fun e_ vs_ os_ hs2_ => K_ e_ (hdL (bodyAt Try.prog 53 [false, true, true]) T_ (kills [3] M2_) 32 8 [(0, .yld 7), (8, .ls false 0 (Ll.len l)), (9, .i .i64 (Ll.len l))] [(0, .list 0 [.int .i64, .int .i64, .int .i64, .int .i64] false l)] (((tsOf [3, 10] []) e_).zip vs_) ([4, 5, 7].zip os_) [(82, [.int .i64, .int .i64])] hs2_ (addW ([3] ++ [4, 5, 7]) wr_)))
      (L := LL) (U := 30) (cs := sCall Try.prog 30 (spOf sp0) noLoop 20) (call := CN Try.prog AW m_) (lp := ⟨53, false, noLoop 53⟩) (root := c0_) (p := [false, true, true])
      (show CallSOK _ _ from by
        have := sCall_ok (P := Try.prog) (d := m_ - 20) (U := 30) (lp := noLoop) (sp0_ok (fs := fsh) (ov := true) (d := m_ - 20)) (sp0_aw (fs := fsh) (ov := true)) (noLoop_ok) (by decide) rfl 20
        rwa [show 20 + (m_ - 20) = m_ by omega] at this) (ctx_of (g := 53) (rg := false) (at_ := noLoop 53) (fun p rg f h => by cases h) hfn_ hb_ hro_) (by decide) hc_
      (by
        rintro ⟨i, f, v, g⟩ o ho
        simp only [List.mem_cons, List.not_mem_nil, or_false] at ho
        rcases ho with rfl | rfl | rfl
        · rfl
        · rfl
        · rfl)
      (fun x hx => by
        simp only [List.mem_cons, List.not_mem_nil, or_false] at hx
        rcases hx with rfl | rfl | rfl
        · exact ⟨_, w6, rfl⟩
        · exact ⟨_, w7, rfl⟩
        · exact ⟨_, w8, rfl⟩) (fun x hx => by
        simp only [List.mem_cons, List.not_mem_nil, or_false] at hx
        rcases hx with rfl
        · exact ⟨_, w9, rfl⟩) (fun x hx => by
        simp only [List.mem_cons, List.not_mem_nil, or_false] at hx
        rcases hx with rfl | rfl | rfl
        · simp
        · simp
        · simp)
      (fun x hx => by
        simp only [List.mem_cons, List.not_mem_nil, or_false] at hx
        rcases hx with rfl | rfl | rfl
        · exact g0
        · exact g1
        · exact g2) (fun x hx => by
        simp only [List.mem_cons, List.not_mem_nil, or_false] at hx
        rcases hx with rfl
        · exact ⟨w3, by simp⟩) ?_ (fun _ _ _ _ _ h => h) (by decide) (fun x hx => by
        simp only [List.mem_cons, List.not_mem_nil, or_false] at hx
        rcases hx with rfl | rfl | rfl | rfl | rfl
        · exact g0
        · exact g1
        · exact g2
        · exact g4
        · exact g5) (fun x hx => by
        simp only [List.mem_cons, List.not_mem_nil, or_false] at hx
        rcases hx with rfl | rfl | rfl | rfl | rfl
        · exact w3
        · exact w6
        · exact w7
        · exact w8
        · exact w9) ?_ hs2_
    · rintro ⟨i, f, v, g⟩ hI
      exact ha_go l i f v g i_0 f_0 v_0 q2 q3 q4 T_ (kills [3] M2_) _ q1 hI (fun i' f' v' g' ha hb => ⟨(i', f', v', g'), ha, hb, rfl, rfl, rfl⟩) (⟨by simp [SO.mine], hx1⟩)
    · exact ha_go0 l i_0 f_0 v_0 T_ M2_ _ q1 q2 q3 q4 (fun i' f' v' g' ha hb => ⟨(i', f', v', g'), ha, hb, rfl, rfl, rfl⟩) (⟨by simp [SO.mine], hx1⟩)
  · exact h_.elim

abbrev lpH {A : Go.Rx.Alg} : Nat → Go.Rx.LoopS A := Go.Rx.lpOf [(53, [false, true, true], false, haF)]
theorem lpH_ok {d : Nat} (hd : 100 ≤ d) : LoopsAll (fs := fsh) (ov := true) Try.prog AW d lpH := lpOf_ok fun x hx => by
  simp only [List.mem_cons, List.not_mem_nil, or_false] at hx
  rcases hx with rfl
  · exact haF_ok (by omega)
theorem height_eq (l : Ll) (KK : KS (stdA fsh true)) : sFunc Try.prog 30 (sCall Try.prog 30 (spOf spB) lpH 20) lpH 29 [.agg [.ls false 0 (Ll.len l)]] (lsMem 0 [([.int .i64, .int .i64, .int .i64, .int .i64], l)]) 1 KK =
  ((Ll.len l) = (Ll.len l) ∧ (cond (decide ((holeE l) ≠ (0 : Int)))
 (KK (.agg [.nils]) (lsMem 0 [([.int .i64, .int .i64, .int .i64, .int .i64], l)]) 1 [])
 ((Ll.len l) = (Ll.len l) ∧ ((Ll.len l) = (Ll.len l) ∧ ((0 : Int) = (0 : Int) ∧ ((0 : Int) = (0 : Int) ∧ ((holeE l) = (0 : Int) ∧ ((0 : Int) = (0 : Int) ∧ ((0 : Int) = (0 : Int) ∧ ((0 : Int) = (0 : Int) ∧ ((Ll.len (hgtP l l.length)) = (Ll.len (hgtP l l.length)) ∧ (KK (.agg [(.ls true 1 (Ll.len (hgtP l l.length)))]) (Al.set (lsMem 0 [([.int .i64, .int .i64, .int .i64, .int .i64], l)]) 1 (some (.list 82 [.int .i64, .int .i64] true (hgtP l l.length)))) 2 [])))))))))))) := by kernel_rfl
theorem height_gives {m : Nat} (hm : 400 ≤ m) {H : Hp} {nx : Nat} {v_l : LV} {l : Ll} (hl_l : IsL H nx [.int .i64, .int .i64, .int .i64, .int .i64] l v_l) : Gives Try.prog AW m 29 [.agg [v_l]] H nx true 82 [.int .i64, .int .i64] (hgtL l) := by
  obtain ⟨ν, n1, n2, n3, n4⟩ := ls_in (fs := fsh) (ov := true) (l := [([.int .i64, .int .i64, .int .i64, .int .i64], l)]) (lvs := [v_l]) 0 (fun i x lv e1 e2 => by
    cases i with
    | zero => simp at e1 e2; subst e1 e2; exact hl_l
    | succ i =>
      simp at e1) rfl
  refine gives_of (n := 20) (d := m - 21) (U := 30) (fs := fsh) (ov := true) (spB_ok (by omega)) spB_aw (lpH_ok (by omega)) (by decide) (by decide) (by omega) (args := [.agg [.ls false 0 (Ll.len l)]]) (M := lsMem 0 [([.int .i64, .int .i64, .int .i64, .int .i64], l)]) (snx := 1) ?_ ?_ (VSL.cons ⟨_, rfl, (VSL.cons (n4 0 _ _ rfl rfl) rfl)⟩ rfl) (hs_in n2 n3)
  rw [height_eq]
  · simp only [cond_iff, InK64]
    have hl : Ll.len l = (l.length : Int) := rfl
    have c0 : hgtL l = if holeE l = 0 then hgtP l l.length else [] := rfl
    by_cases hz : holeE l = 0
    · rw [if_pos hz] at c0
      repeat' (first | exact end_l (w := true) c0.symm | exact end_nil (w := true) (by omega) | apply And.intro | intro _)
      all_goals first
        | trivial
        | omega
    · rw [if_neg hz] at c0
      repeat' (first | exact end_nil (w := true) c0 | apply And.intro | intro _)
      all_goals first
        | trivial
        | omega
  · show ∀ x ∈ hgtL l, x.length = 2
    intro x hx
    unfold hgtL at hx
    split at hx
    · exact hgtP_rows l _ x hx
    · cases hx
abbrev heightS {A : Go.Rx.Alg} : List (Go.Rx.SV A) → Go.Rx.SH A → Nat → Go.Rx.KS A → A.R := fun args_ M_ snx_ K_ => match args_ with
  | [.agg [x_l]] => (match Go.Rx.lsArg M_ [.int .i64, .int .i64, .int .i64, .int .i64] x_l with | some (l, n_l) => (A.need .eql n_l (A.len l) ((M_.set snx_ (some (.list 82 [.int .i64, .int .i64] true (A.appL 50 [l] [])))).force fun M_ => K_ (.agg [.ls true snx_ (A.len (A.appL 50 [l] []))]) M_ (snx_ + 1) [])) | none => A.fail "height")
  | _ => A.fail "height"
theorem heightS_ok {ov : Bool} {d : Nat} (hd : 400 ≤ d) : SpecOK (fs := fsh) (ov := ov) Try.prog AW d 29 heightS := by
  intro m_ hm_ args_ M_ snx_ K_ h_ ν_ largs_ H_ nx_ ha_ hM_
  unfold heightS at h_
  split at h_
  · rename_i x_l
    obtain ⟨y1, r1, rfl, ⟨l1, rfl, ⟨v_l, r2, rfl, hx_l, rfl⟩⟩, rfl⟩ := ha_
    split at h_
    · rename_i l n_l q_l
      obtain ⟨e_l, h_⟩ := h_
      exact gives_got (height_gives (by omega) (lsArg_ok hM_ hx_l q_l e_l)) hM_ h_
    · exact h_.elim
  · exact h_.elim

end Go.Proofs.Ytfjilbjofaommaa
