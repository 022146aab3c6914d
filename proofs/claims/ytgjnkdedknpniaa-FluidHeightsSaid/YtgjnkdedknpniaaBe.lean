/-
  Layer 3: the law of heights.
-/
import Derived.Test.YtgjnkdedknpniaaMi
import Derived.Test.YtgjnkdedknpniaaMx
import Derived.Test.YtgjnkdedknpniaaMk
import Derived.Test.YtgjnkdedknpniaaBn
set_option linter.unusedSimpArgs false
set_option linter.unusedVariables false
set_option maxRecDepth 100000
namespace Go.Proofs.Ytgjnkdedknpniaa
open Go Go.Rx

noncomputable abbrev fse : Fs where
  i := fun n ls xs => match n, ls, xs with | 1, [l], [] => holeE l | 2, [l], [] => holeV l | 3, [l], [u] => whereI l u | 4, [l], [a, v] => lchk l a v | 5, [l], [x] => if rightB l = true then valLo l x else 0 | 6, [l], [x] => if rightB l = true then valHi l x else 0 | 7, [], [a, b] => a % b | 8, [l], [] => risN l l.length | _, _, _ => 0
  b := fun _ _ _ => false
  l := fun n ls xs => match n, ls, xs with | 50, [l], [] => hgtL l | 51, [x], [] => annL x | _, _, _ => []
  rng := rngAt Try.prog
abbrev eannS {A : Go.Rx.Alg} : List (Go.Rx.SV A) → Go.Rx.SH A → Nat → Go.Rx.KS A → A.R := fun args_ M_ snx_ K_ => match args_ with
  | [x_x] => (match Go.Rx.lsArg M_ [.int .i64] x_x with | some (x, n_x) => (A.need .eql n_x (A.len x) ((M_.set snx_ (some (.list 44 [.int .i64, .int .i64, .int .i64, .int .i64] true (A.appL 51 [x] [])))).force fun M_ => K_ (.agg [.ls true snx_ (A.len (A.appL 51 [x] []))]) M_ (snx_ + 1) [])) | none => A.fail "eann")
  | _ => A.fail "eann"
theorem eannS_ok {ov : Bool} {d : Nat} (hd : 1000 ≤ d) : SpecOK (fs := fse) (ov := ov) Try.prog AW d 43 eannS := by
  intro m_ hm_ args_ M_ snx_ K_ h_ ν_ largs_ H_ nx_ ha_ hM_
  unfold eannS at h_
  split at h_
  · rename_i x_x
    obtain ⟨v_x, r1, rfl, hx_x, rfl⟩ := ha_
    split at h_
    · rename_i x n_x q_x
      obtain ⟨e_x, h_⟩ := h_
      exact gives_got (annulus_gives (by omega) (lsArg_ok hM_ hx_x q_x e_x)) hM_ h_
    · exact h_.elim
  · exact h_.elim
abbrev em64S {A : Go.Rx.Alg} : List (Go.Rx.SV A) → Go.Rx.SH A → Nat → Go.Rx.KS A → A.R := fun args_ M_ snx_ K_ => match args_ with
  | [.i .i64 a, .i .i64 b] => (A.need .leq (A.lit 1) b (A.need .leq b (A.lit 9223372036854775807) (K_ (.i .i64 (A.app 7 [] [a, b])) M_ snx_ [])))
  | _ => A.fail "em64"
theorem em64S_ok {ov : Bool} {d : Nat} (hd : 1000 ≤ d) : SpecOK (fs := fse) (ov := ov) Try.prog AW d 45 em64S := by
  intro m_ hm_ args_ M_ snx_ K_ h_ ν_ largs_ H_ nx_ ha_ hM_
  unfold em64S at h_
  split at h_
  · rename_i a b
    obtain ⟨y1, r1, rfl, rfl, ⟨y2, r2, rfl, rfl, rfl⟩⟩ := ha_
    obtain ⟨p1, h_⟩ := h_
    obtain ⟨p2, h_⟩ := h_
    exact pure_got (m64_pure (by omega) a b p1 p2) hM_ (v := .i .i64 _) rfl h_
  · exact h_.elim
abbrev ehgtS {A : Go.Rx.Alg} : List (Go.Rx.SV A) → Go.Rx.SH A → Nat → Go.Rx.KS A → A.R := fun args_ M_ snx_ K_ => match args_ with
  | [.agg [x_l]] => (match Go.Rx.lsArg M_ [.int .i64, .int .i64, .int .i64, .int .i64] x_l with | some (l, n_l) => (A.need .eql n_l (A.len l) ((M_.set snx_ (some (.list 68 [.int .i64, .int .i64] true (A.appL 50 [l] [])))).force fun M_ => K_ (.agg [.ls true snx_ (A.len (A.appL 50 [l] []))]) M_ (snx_ + 1) [])) | none => A.fail "ehgt")
  | _ => A.fail "ehgt"
theorem ehgtS_ok {ov : Bool} {d : Nat} (hd : 1000 ≤ d) : SpecOK (fs := fse) (ov := ov) Try.prog AW d 20 ehgtS := by
  intro m_ hm_ args_ M_ snx_ K_ h_ ν_ largs_ H_ nx_ ha_ hM_
  unfold ehgtS at h_
  split at h_
  · rename_i x_l
    obtain ⟨y1, r1, rfl, ⟨l1, rfl, ⟨v_l, r2, rfl, hx_l, rfl⟩⟩, rfl⟩ := ha_
    split at h_
    · rename_i l n_l q_l
      obtain ⟨e_l, h_⟩ := h_
      exact gives_got (height_gives (by omega) (lsArg_ok hM_ hx_l q_l e_l)) hM_ h_
    · exact h_.elim
  · exact h_.elim
abbrev evolS {A : Go.Rx.Alg} : List (Go.Rx.SV A) → Go.Rx.SH A → Nat → Go.Rx.KS A → A.R := fun args_ M_ snx_ K_ => match args_ with
  | [.agg [x_l]] => (match Go.Rx.lsArg M_ [.int .i64, .int .i64, .int .i64, .int .i64] x_l with | some (l, n_l) => (A.need .eql n_l (A.len l) (K_ (.i .i64 (A.app 2 [l] [])) M_ snx_ [])) | none => A.fail "evol")
  | _ => A.fail "evol"
theorem evolS_ok {ov : Bool} {d : Nat} (hd : 1000 ≤ d) : SpecOK (fs := fse) (ov := ov) Try.prog AW d 17 evolS := by
  intro m_ hm_ args_ M_ snx_ K_ h_ ν_ largs_ H_ nx_ ha_ hM_
  unfold evolS at h_
  split at h_
  · rename_i x_l
    obtain ⟨y1, r1, rfl, ⟨l1, rfl, ⟨v_l, r2, rfl, hx_l, rfl⟩⟩, rfl⟩ := ha_
    split at h_
    · rename_i l n_l q_l
      obtain ⟨e_l, h_⟩ := h_
      exact pure_got (vol_pure (by omega) (lsArg_ok hM_ hx_l q_l e_l)) hM_ (v := .i .i64 _) rfl h_
    · exact h_.elim
  · exact h_.elim
abbrev ewhS {A : Go.Rx.Alg} : List (Go.Rx.SV A) → Go.Rx.SH A → Nat → Go.Rx.KS A → A.R := fun args_ M_ snx_ K_ => match args_ with
  | [.agg [x_l], .i .i64 u] => (match Go.Rx.lsArg M_ [.int .i64, .int .i64, .int .i64, .int .i64] x_l with | some (l, n_l) => (A.need .eql n_l (A.len l) (K_ (.i .i64 (A.app 3 [l] [u])) M_ snx_ [])) | none => A.fail "ewh")
  | _ => A.fail "ewh"
theorem ewhS_ok {ov : Bool} {d : Nat} (hd : 1000 ≤ d) : SpecOK (fs := fse) (ov := ov) Try.prog AW d 22 ewhS := by
  intro m_ hm_ args_ M_ snx_ K_ h_ ν_ largs_ H_ nx_ ha_ hM_
  unfold ewhS at h_
  split at h_
  · rename_i x_l u
    obtain ⟨y1, r1, rfl, ⟨l1, rfl, ⟨v_l, r2, rfl, hx_l, rfl⟩⟩, ⟨y3, r3, rfl, rfl, rfl⟩⟩ := ha_
    split at h_
    · rename_i l n_l q_l
      obtain ⟨e_l, h_⟩ := h_
      exact pure_got (where_pure (by omega) u (lsArg_ok hM_ hx_l q_l e_l)) hM_ (v := .i .i64 _) rfl h_
    · exact h_.elim
  · exact h_.elim
abbrev eckS {A : Go.Rx.Alg} : List (Go.Rx.SV A) → Go.Rx.SH A → Nat → Go.Rx.KS A → A.R := fun args_ M_ snx_ K_ => match args_ with
  | [.agg [x_l], .i .i64 a, .i .i64 v] => (match Go.Rx.lsArg M_ [.int .i64, .int .i64] x_l with | some (l, n_l) => (A.need .eql n_l (A.len l) (K_ (.i .i64 (A.app 4 [l] [a, v])) M_ snx_ [])) | none => A.fail "eck")
  | _ => A.fail "eck"
theorem eckS_ok {ov : Bool} {d : Nat} (hd : 1000 ≤ d) : SpecOK (fs := fse) (ov := ov) Try.prog AW d 44 eckS := by
  intro m_ hm_ args_ M_ snx_ K_ h_ ν_ largs_ H_ nx_ ha_ hM_
  unfold eckS at h_
  split at h_
  · rename_i x_l a v
    obtain ⟨y1, r1, rfl, ⟨l1, rfl, ⟨v_l, r2, rfl, hx_l, rfl⟩⟩, ⟨y3, r3, rfl, rfl, ⟨y4, r4, rfl, rfl, rfl⟩⟩⟩ := ha_
    split at h_
    · rename_i l n_l q_l
      obtain ⟨e_l, h_⟩ := h_
      exact pure_got (check_pure (by omega) a v (lsArg_ok hM_ hx_l q_l e_l)) hM_ (v := .i .i64 _) rfl h_
    · exact h_.elim
  · exact h_.elim
abbrev eatS {A : Go.Rx.Alg} : List (Go.Rx.SV A) → Go.Rx.SH A → Nat → Go.Rx.KS A → A.R := fun args_ M_ snx_ K_ => match args_ with
  | [.agg [x_l], .i .i64 x] => (match Go.Rx.lsArg M_ [.int .i64, .int .i64] x_l with | some (l, n_l) => (A.need .eql n_l (A.len l) (K_ (.agg [.i .i64 (A.app 5 [l] [x]), .i .i64 (A.app 6 [l] [x])]) M_ snx_ [])) | none => A.fail "eat")
  | _ => A.fail "eat"
theorem eatS_ok {ov : Bool} {d : Nat} (hd : 1000 ≤ d) : SpecOK (fs := fse) (ov := ov) Try.prog AW d 46 eatS := by
  intro m_ hm_ args_ M_ snx_ K_ h_ ν_ largs_ H_ nx_ ha_ hM_
  unfold eatS at h_
  split at h_
  · rename_i x_l x
    obtain ⟨y1, r1, rfl, ⟨l1, rfl, ⟨v_l, r2, rfl, hx_l, rfl⟩⟩, ⟨y3, r3, rfl, rfl, rfl⟩⟩ := ha_
    split at h_
    · rename_i l n_l q_l
      obtain ⟨e_l, h_⟩ := h_
      exact pure_got (at_pure (by omega) x (lsArg_ok hM_ hx_l q_l e_l)) hM_ (v := .agg [.i .i64 _, .i .i64 _]) ⟨_, rfl, (VSL.cons rfl (VSL.cons rfl rfl))⟩ h_
    · exact h_.elim
  · exact h_.elim
theorem sum_eq (i s : Int) (l : Ll) (T : Al (SV (stdA fse true))) (M : Al (SO (stdA fse true))) (KK : Ex → List (SV (stdA fse true)) → List (SO (stdA fse true)) → List Ll → Prop) : sCode Try.prog (sCall Try.prog 30 (spOf sp0) noLoop 20) ⟨8, false, noLoop 8⟩ 30 (false :: [false, true, false, true, true, true, true, true]) (bodyAt Try.prog 8 [false, true, false, true, true, true, true, true]) (hdL (bodyAt Try.prog 8 [false, true, false, true, true, true, true, true]) T M 111 5 [(5, .p 2 0)] [(1, .list 44 [.int .i64, .int .i64, .int .i64, .int .i64] true l), (2, .row 24 [.ls true 1 (Ll.len l)])] [(8, .i .i64 s), (9, .i .i64 i)] [] [] [] []) (outL 5 (tsOf [8, 9] []) [] [] [] KK) =
  (cond (decide (i < (Ll.len l)))
 ((0 : Int) ≤ i ∧ (i < (Ll.len l) ∧ (i < (Ll.len l) ∧ (InK .i64 (s + (Ll.get l i 1)) ∧ (InK .i64 (i + (1 : Int)) ∧ (KK .normal [(.i .i64 (s + (Ll.get l i 1))), (.i .i64 (i + (1 : Int)))] [] []))))))
 (KK (.exit 0) [(.i .i64 s), (.i .i64 i)] [] [])) := by kernel_rfl
theorem sum_go (l : Ll) (i : Int) (s : Int) (i_0 : Int) (s_0 : Int) (r1 : i_0 = (0 : Int)) (r2 : s_0 = (0 : Int)) (T : Al (SV (stdA fse true))) (M : Al (SO (stdA fse true))) (KK : Ex → List (SV (stdA fse true)) → List (SO (stdA fse true)) → List Ll → Prop) (p1 : (holeE l) = (0 : Int)) (hI : 0 ≤ i ∧ i ≤ l.length ∧ s = risN l i.toNat) (hn : ∀ (i' : Int) (s' : Int), 0 ≤ i' ∧ i' ≤ l.length ∧ s' = risN l i'.toNat → (20 - i').toNat < (20 - i).toNat → KK .normal [.i .i64 s', .i .i64 i'] [] []) (hx1 : KK (.exit 0) [.i .i64 (risN l l.length), .i .i64 (Ll.len l)] [] []) :
    sCode Try.prog (sCall Try.prog 30 (spOf sp0) noLoop 20) ⟨8, false, noLoop 8⟩ 30 (false :: [false, true, false, true, true, true, true, true]) (bodyAt Try.prog 8 [false, true, false, true, true, true, true, true]) (hdL (bodyAt Try.prog 8 [false, true, false, true, true, true, true, true]) T M 111 5 [(5, .p 2 0)] [(1, .list 44 [.int .i64, .int .i64, .int .i64, .int .i64] true l), (2, .row 24 [.ls true 1 (Ll.len l)])] [(8, .i .i64 s), (9, .i .i64 i)] [] [] [] []) (outL 5 (tsOf [8, 9] []) [] [] [] KK) := by
  refine Eq.mpr (sum_eq i s l T M KK) ?_
  simp only [cond_iff, InK64]
  obtain ⟨i0, i1, rfl⟩ := hI
  have hl : Ll.len l = (l.length : Int) := rfl
  have p0 : HoleOK l := hole_of p1
  have hlen := p0.len
  by_cases h : i < Ll.len l
  · have ha := p0.at i0 (by omega)
    have hb := p0.b (n := i.toNat) (by omega)
    have e := risN_succ (l := l) i0
    have hN := hn (i + 1) (risN l i.toNat + Ll.get l i 1) ⟨by omega, by omega, by rw [show (i + 1).toNat = i.toNat + 1 by omega, e]⟩ (by omega)
    repeat' (first | apply And.intro | intro _)
    all_goals first | exact hN | omega | trivial
  · obtain rfl : i = l.length := by omega
    repeat' (first | apply And.intro | intro _)
    all_goals first | exact hx1 | omega | trivial
abbrev sumF {A : Go.Rx.Alg} : Code → Go.Rx.SS A → (Go.Rx.Ex → Go.Rx.SS A → A.R) → A.R := fun c_ s_ K_ => match s_.T.get 5, s_.H.get 1, s_.H.get 2, s_.T.get 8, s_.T.get 9 with
  | some (.p 2 0), some (.list t1 k1 true l), some (.row t2 [.ls true 1 m3]), some (.i .i64 s), some (.i .i64 i) => bif ((((Nat.beq s_.N 111 && Nat.beq s_.nx 5) && Nat.beq t1 44) && decide (k1 = [.int .i64, .int .i64, .int .i64, .int .i64])) && Nat.beq t2 24) then (A.need .eql m3 (A.len l) (A.need .eql (A.app 1 [l] []) (A.lit 0) (A.need .eql i (A.lit 0) (A.need .eql s (A.lit 0) (K_ (.exit 0) (Go.Rx.hdL c_ s_.T (Go.Rx.kills [] s_.H) 111 5 [(5, .p 2 0)] [(1, .list 44 [.int .i64, .int .i64, .int .i64, .int .i64] true l), (2, .row 24 [.ls true 1 (A.len l)])] [(8, .i .i64 (A.app 8 [l] [])), (9, .i .i64 (A.len l))] [] [] [] (Go.Rx.addW ([] ++ []) s_.wr))))))) else A.fail "frame of sum"
  | _, _, _, _, _ => A.fail "sum"
theorem sumF_ok {d : Nat} (hd : 100 ≤ d) : LoopOK (fs := fse) (ov := true) Try.prog AW d 8 [false, true, false, true, true, true, true, true] false sumF := by
  intro m_ hm_ fn_ c0_ hfn_ hb_ c_ ro_ hro_ hc_ s_ K_ W_ ν_ S_ h_ hs_
  obtain rfl := body_of hfn_ hb_ hc_
  unfold sumF at h_
  split at h_
  · rename_i t1 k1 l_0 t2 m3_0 s_0_0 i_0_0 g0 g1 g2 g3 g4
    obtain ⟨l, rfl⟩ : ∃ q : Ll, q = l_0 := ⟨l_0, rfl⟩
    obtain ⟨m3, rfl⟩ : ∃ q : Int, q = m3_0 := ⟨m3_0, rfl⟩
    obtain ⟨s_0, rfl⟩ : ∃ q : Int, q = s_0_0 := ⟨s_0_0, rfl⟩
    obtain ⟨i_0, rfl⟩ : ∃ q : Int, q = i_0_0 := ⟨i_0_0, rfl⟩
    obtain ⟨T_, FN_, M_, snx_, wr_⟩ := s_
    have hN : ((((Nat.beq FN_ 111 && Nat.beq snx_ 5) && Nat.beq t1 44) && decide (k1 = [.int .i64, .int .i64, .int .i64, .int .i64])) && Nat.beq t2 24) = true := by
      cases hq : (((((Nat.beq FN_ 111 && Nat.beq snx_ 5) && Nat.beq t1 44) && decide (k1 = [.int .i64, .int .i64, .int .i64, .int .i64])) && Nat.beq t2 24) : Bool) with
      | true => rfl
      | false => (rw [hq] at h_; exact h_.elim)
    rw [hN, cond_true] at h_
    simp only [Bool.and_eq_true, beq_iff, decide_eq_true_eq] at hN
    obtain ⟨⟨⟨⟨rfl, rfl⟩, rfl⟩, rfl⟩, rfl⟩ := hN
    obtain ⟨q0, h_⟩ := h_
    obtain rfl : m3 = (Ll.len l) := q0
    obtain ⟨q1, h_⟩ := h_
    have q1 : (holeE l) = (0 : Int) := q1
    obtain ⟨q2, h_⟩ := h_
    have q2 : i_0 = (0 : Int) := q2
    obtain ⟨q3, h_⟩ := h_
    have q3 : s_0 = (0 : Int) := q3
    replace h_ : K_ (.exit 0) (hdL (bodyAt Try.prog 8 [false, true, false, true, true, true, true, true]) T_ (kills [] M_) 111 5 [(5, .p 2 0)] [(1, .list 44 [.int .i64, .int .i64, .int .i64, .int .i64] true l), (2, .row 24 [.ls true 1 (Ll.len l)])] [(8, .i .i64 (risN l l.length)), (9, .i .i64 (Ll.len l))] [] [] [] (addW ([] ++ []) wr_)) := h_
    have hx1 : K_ (.exit 0) (hdL (bodyAt Try.prog 8 [false, true, false, true, true, true, true, true]) T_ (kills [] M_) 111 5 [(5, .p 2 0)] [(1, .list 44 [.int .i64, .int .i64, .int .i64, .int .i64] true l), (2, .row 24 [.ls true 1 (Ll.len l)])] [(8, .i .i64 (risN l l.length)), (9, .i .i64 (Ll.len l))] [] [] [] (addW ([] ++ []) wr_)) := by
      have h2 := h_
      exact h2
    refine loop_ruleL (fs := fse) (ov := true) (s := ⟨T_, 111, M_, 5, wr_⟩) (X := Int × Int) (B := []) (mv := []) (kt := [(5, .p 2 0)]) (kr := [(1, .list 44 [.int .i64, .int .i64, .int .i64, .int .i64] true l), (2, .row 24 [.ls true 1 (Ll.len l)])]) (ty := []) (x := (i_0, s_0))
      (Inv := (fun x_ : Int × Int => match x_ with | (i, s) => 0 ≤ i ∧ i ≤ l.length ∧ s = risN l i.toNat)) (μ := (fun x_ : Int × Int => match x_ with | (i, s) => (20 - i).toNat)) (ts := tsOf [8, 9] []) (sl := (fun x_ : Int × Int => match x_ with | (i, s) => [.i .i64 s, .i .i64 i])) (bl := (fun x_ : Int × Int => match x_ with | (i, s) => [])) (ll := (fun x_ : Int × Int => match x_ with | (i, s) => [])) (Q := fun e_ vs_ os_ hs_ => K_ e_ (hdL (bodyAt Try.prog 8 [false, true, false, true, true, true, true, true]) T_ (kills [] M_) 111 5 [(5, .p 2 0)] [(1, .list 44 [.int .i64, .int .i64, .int .i64, .int .i64] true l), (2, .row 24 [.ls true 1 (Ll.len l)])] (((tsOf [8, 9] []) e_).zip vs_) ([].zip os_) [] hs_ (addW ([] ++ []) wr_)))
      (L := LL) (U := 30) (cs := sCall Try.prog 30 (spOf sp0) noLoop 20) (call := CN Try.prog AW m_) (lp := ⟨8, false, noLoop 8⟩) (root := c0_) (p := [false, true, false, true, true, true, true, true])
      (show CallSOK _ _ from by
        have := sCall_ok (P := Try.prog) (d := m_ - 20) (U := 30) (lp := noLoop) (sp0_ok (fs := fse) (ov := true) (d := m_ - 20)) (sp0_aw (fs := fse) (ov := true)) (noLoop_ok) (by decide) rfl 20
        rwa [show 20 + (m_ - 20) = m_ by omega] at this) (ctx_of (g := 8) (rg := false) (at_ := noLoop 8) (fun p rg f h => by cases h) hfn_ hb_ hro_) (by decide) hc_
      (fun x o ho => by cases ho)
      (fun x hx => by cases hx) (fun x hx => by cases hx) (fun x hx => by cases hx)
      (fun x hx => by
        simp only [List.mem_cons, List.not_mem_nil, or_false] at hx
        rcases hx with rfl
        · exact g0) (fun x hx => by
        simp only [List.mem_cons, List.not_mem_nil, or_false] at hx
        rcases hx with rfl | rfl
        · exact ⟨g1, by simp⟩
        · exact ⟨g2, by simp⟩) ?_ (fun _ _ _ _ _ h => h) ?_ ?_ ?_ hs_
    · rintro ⟨i, s⟩ hI
      exact sum_go l i s i_0 s_0 q2 q3 T_ (kills [] M_) _ q1 hI (fun i' s' ha hb => ⟨(i', s'), ha, hb, rfl, rfl, rfl⟩) (⟨by simp [SO.mine], hx1⟩)
    · show 0 ≤ i_0 ∧ i_0 ≤ l.length ∧ s_0 = risN l i_0.toNat
      have p0 := hole_of q1
      exact ⟨by omega, by omega, by rw [q2, q3]; rfl⟩
    · show (20 - i_0).toNat < LL
      exact Nat.lt_of_le_of_lt (show _ ≤ 1000 by omega) (by decide)
    · exact ⟨⟨[.i .i64 s_0, .i .i64 i_0], [], [], [], by simp [gets, tsOf, g0, g1, g2, g3, g4], by simp [gets, g0, g1, g2, g3, g4], rfl, rfl, by simp [listsOf] <;> rfl⟩⟩
  · exact h_.elim
abbrev lpSum {A : Go.Rx.Alg} : Nat → Go.Rx.LoopS A := Go.Rx.lpOf [(8, [false, true, false, true, true, true, true, true], false, sumF)]
theorem lpSum_ok {d : Nat} (hd : 100 ≤ d) : LoopsAll (fs := fse) (ov := true) Try.prog AW d lpSum := lpOf_ok fun x hx => by
  simp only [List.mem_cons, List.not_mem_nil, or_false] at hx
  rcases hx with rfl
  · exact sumF_ok (by omega)
abbrev spF {A : Go.Rx.Alg} : Go.Rx.SpL A := [(AW, Go.Rx.awakeS), (43, eannS), (45, em64S), (20, ehgtS), (17, evolS), (22, ewhS), (44, eckS), (46, eatS)]
theorem spF_ok {ov : Bool} {d : Nat} (hd : 1000 ≤ d) : SpOK (fs := fse) (ov := ov) Try.prog AW d spF := SpOK.cons awake_ok (SpOK.cons (eannS_ok (by omega)) (SpOK.cons (em64S_ok (by omega)) (SpOK.cons (ehgtS_ok (by omega)) (SpOK.cons (evolS_ok (by omega)) (SpOK.cons (ewhS_ok (by omega)) (SpOK.cons (eckS_ok (by omega)) (SpOK.cons (eatS_ok (by omega)) SpOK.nil)))))))
theorem spF_aw {fs : Fs} {ov : Bool} : (spOf (A := stdA fs ov) spF AW).isSome = true := rfl
theorem heights_eq (u : Int) (x : Ll) (KK : KS (stdA fse true)) : sFunc Try.prog 30 (sCall Try.prog 30 (spOf spF) lpSum 20) lpSum 8 [.ls false 0 (Ll.len x), .i .i64 u] (lsMem 0 [([.int .i64], x)]) 1 KK =
  ((Ll.len x) = (Ll.len x) ∧ ((Ll.len (annL x)) = (Ll.len (annL x)) ∧ ((Ll.len (annL x)) = (Ll.len (annL x)) ∧ ((Ll.len (hgtL (annL x))) = (Ll.len (hgtL (annL x))) ∧ (cond (decide ((lchk (hgtL (annL x)) (1099511627776 : Int) (1048576 : Int)) ≠ (0 : Int)))
 (KK (.b false) (lsMem 0 [([.int .i64], x)]) 1 [])
 (InK .i64 ((Ll.len (annL x)) + (1 : Int)) ∧ (cond (decide ((Ll.len (hgtL (annL x))) ≠ ((Ll.len (annL x)) + (1 : Int))))
 (KK (.b false) (lsMem 0 [([.int .i64], x)]) 1 [])
 ((0 : Int) ≤ (0 : Int) ∧ ((0 : Int) < (Ll.len (hgtL (annL x))) ∧ ((0 : Int) < (Ll.len (hgtL (annL x))) ∧ (cond (!((decide ((Ll.get (hgtL (annL x)) (0 : Int) 0) = (0 : Int))) && (decide ((Ll.get (hgtL (annL x)) (0 : Int) 1) = (0 : Int)))))
 (KK (.b false) (lsMem 0 [([.int .i64], x)]) 1 [])
 (InK .i64 ((Ll.len (hgtL (annL x))) - (1 : Int)) ∧ ((0 : Int) ≤ ((Ll.len (hgtL (annL x))) - (1 : Int)) ∧ (((Ll.len (hgtL (annL x))) - (1 : Int)) < (Ll.len (hgtL (annL x))) ∧ (((Ll.len (hgtL (annL x))) - (1 : Int)) < (Ll.len (hgtL (annL x))) ∧ (cond (decide ((Ll.get (hgtL (annL x)) ((Ll.len (hgtL (annL x))) - (1 : Int)) 0) ≠ (holeV (annL x))))
 (KK (.b false) (lsMem 0 [([.int .i64], x)]) 1 [])
 ((Ll.len (annL x)) = (Ll.len (annL x)) ∧ ((holeE (annL x)) = (0 : Int) ∧ ((0 : Int) = (0 : Int) ∧ ((0 : Int) = (0 : Int) ∧ ((1 : Int) ≤ (holeV (annL x)) ∧ ((holeV (annL x)) ≤ (9223372036854775807 : Int) ∧ ((Ll.len (hgtL (annL x))) = (Ll.len (hgtL (annL x))) ∧ (InK .i64 ((u % (holeV (annL x))) + (1 : Int)) ∧ ((Ll.len (hgtL (annL x))) = (Ll.len (hgtL (annL x))) ∧ (InK .i64 ((Ll.len (hgtL (annL x))) - (1 : Int)) ∧ ((0 : Int) ≤ ((Ll.len (hgtL (annL x))) - (1 : Int)) ∧ (((Ll.len (hgtL (annL x))) - (1 : Int)) < (Ll.len (hgtL (annL x))) ∧ (((Ll.len (hgtL (annL x))) - (1 : Int)) < (Ll.len (hgtL (annL x))) ∧ (cond (decide ((Ll.get (hgtL (annL x)) ((Ll.len (hgtL (annL x))) - (1 : Int)) 1) = (risN (annL x) (annL x).length)))
 (cond (decide ((if rightB (hgtL (annL x)) = true then valLo (hgtL (annL x)) ((u % (holeV (annL x))) + (1 : Int)) else 0) ≥ (if rightB (hgtL (annL x)) = true then valLo (hgtL (annL x)) (u % (holeV (annL x))) else 0)))
 (cond (decide ((if rightB (hgtL (annL x)) = true then valHi (hgtL (annL x)) ((u % (holeV (annL x))) + (1 : Int)) else 0) ≥ (if rightB (hgtL (annL x)) = true then valHi (hgtL (annL x)) (u % (holeV (annL x))) else 0)))
 ((Ll.len (annL x)) = (Ll.len (annL x)) ∧ (cond (decide ((whereI (annL x) (u % (holeV (annL x)))) ≥ (0 : Int)))
 (KK (.b true) (lsMem 0 [([.int .i64], x)]) 1 [])
 (KK (.b false) (lsMem 0 [([.int .i64], x)]) 1 [])))
 (KK (.b false) (lsMem 0 [([.int .i64], x)]) 1 []))
 (KK (.b false) (lsMem 0 [([.int .i64], x)]) 1 []))
 (KK (.b false) (lsMem 0 [([.int .i64], x)]) 1 []))))))))))))))))))))))))))))))) := by kernel_rfl
theorem heights_pure {m : Nat} (hm : 1100 ≤ m) {H : Hp} {nx : Nat} (u : Int) {v_x : LV} {x : Ll} (hl_x : IsL H nx [.int .i64] x v_x) : Pure Try.prog AW m 8 [v_x, .i .i64 u] H nx (.b true) := by
  obtain ⟨ν, n1, n2, n3, n4⟩ := ls_in (fs := fse) (ov := true) (l := [([.int .i64], x)]) (lvs := [v_x]) 0 (fun i x lv e1 e2 => by
    cases i with
    | zero => simp at e1 e2; subst e1 e2; exact hl_x
    | succ i =>
      simp at e1) rfl
  refine pure_of (n := 20) (d := m - 21) (U := 30) (fs := fse) (ov := true) (spF_ok (by omega)) spF_aw (lpSum_ok (by omega)) (by decide) (by decide) (by omega) (args := [.ls false 0 (Ll.len x), .i .i64 u]) (M := lsMem 0 [([.int .i64], x)]) (snx := 1) ?_ (VSL.cons (n4 0 _ _ rfl rfl) (VSL.cons rfl rfl)) (hs_in n2 n3)
  rw [heights_eq]
  have hz := hole_zero (ann_ok x)
  have p0 := ann_ok x
  generalize annL x = l at *
  have hl : Ll.len l = (l.length : Int) := rfl
  have hlen := p0.len
  have eH : hgtL l = hgtP l l.length := by unfold hgtL; rw [if_pos hz]
  have eV : holeV l = volN l l.length := by unfold holeV; rw [if_pos hz]
  rw [eH, eV]
  have hb := p0.b (n := l.length) (Nat.le_refl _)
  have hc := hgt_chk p0
  have hr := hgt_right p0
  have hm := hgt_mono p0
  have hR := right_of hr
  have hH := hgtP_len l l.length
  have hH2 : Ll.len (hgtP l l.length) = (l.length : Int) + 1 := by show ((List.length _ : Nat) : Int) = _; rw [hH]; omega
  obtain ⟨g0, g1⟩ := hgt_get (l := l) (n := l.length) (i := 0) (by omega) (by omega)
  obtain ⟨g2, g3⟩ := hgt_get (l := l) (n := l.length) (i := l.length) (by omega) (by omega)
  have g4 : volN l (0 : Int).toNat = 0 := rfl
  have g5 : risN l (0 : Int).toNat = 0 := rfl
  rw [Int.toNat_natCast] at g2 g3
  rw [g4] at g0
  rw [g5] at g1
  have e1 : (l.length : Int) + 1 - 1 = l.length := by omega
  have m0 := Int.emod_nonneg u (show volN l l.length ≠ 0 by omega)
  have m1 := Int.emod_lt_of_pos u (show 0 < volN l l.length by omega)
  have mo := val_mono hR hm (show u % volN l l.length ≤ u % volN l l.length + 1 by omega)
  have hw : 0 ≤ whereI l (u % volN l l.length) := by
    have := whN_spec l (u % volN l l.length)
    unfold whereI whI
    rw [if_pos ⟨hz, m0, by omega⟩]
    split <;> omega
  simp only [hr, hc, hz, hH2, hl, e1, g0, g1, g2, g3, if_pos]
  generalize u % volN l l.length = w at *
  generalize valLo (hgtP l l.length) w = a1 at *
  generalize valHi (hgtP l l.length) w = a2 at *
  generalize valLo (hgtP l l.length) (w + 1) = a3 at *
  generalize valHi (hgtP l l.length) (w + 1) = a4 at *
  simp only [cond_iff, InK64, Bool.and_eq_true, Bool.or_eq_true, Bool.not_eq_true', decide_eq_true_eq, decide_eq_false_iff_not]
  repeat' (first | exact end_b rfl | apply And.intro | intro _)
  all_goals first | exact end_b rfl | omega | trivial
end Go.Proofs.Ytgjnkdedknpniaa
