/-
  Layer 2: lines and their values.
-/
import Derived.Test.YtfjilbjofaommaaMb
import Derived.Test.YtfjilbjofaommaaVm
set_option linter.unusedSimpArgs false
set_option linter.unusedVariables false
set_option maxRecDepth 100000
namespace Go.Proofs.Ytfjilbjofaommaa
open Go Go.Rx

noncomputable abbrev fsv : Fs where
  i := fun n ls xs => match n, ls, xs with | 1, [], [a, b] => a / b | 2, [], [a, b] => cdiv a b | 3, [l], [a, v] => lchk l a v | 4, [l], [x] => valLo l x | 5, [l], [x] => valHi l x | 6, [l], [x] => Ll.get l (pk (kAt l x)) 0 | 7, [l], [x] => Ll.get l (pk (kAt l x)) 1 | 8, [l], [] => Ll.get l (l.length - 1) 0 | 9, [l], [] => Ll.get l (l.length - 1) 1 | 10, [l], [x] => kAt l x - 1 | 11, [l], [j] => Ll.get l j 0 | 12, [l], [j] => Ll.get l j 1 | 13, [l], [x] => if rightB l = true then valLo l x else 0 | 14, [l], [x] => if rightB l = true then valHi l x else 0 | 15, [l], [f, t] => if rightB l = true ∧ f ≤ t then leLo l f t else 0 | 16, [l], [f, t] => if rightB l = true ∧ f ≤ t then leHi l f t else 0 | 17, [l], [f, t] => if rightB l = true ∧ f ≤ t then moLo l f t else 0 | 18, [l], [f, t] => if rightB l = true ∧ f ≤ t then moHi l f t else 0 | 19, [l], [f, t] => leLo l f t | 20, [l], [f, t] => leHi l f t | 21, [l], [f, t] => moLo l f t | 22, [l], [f, t] => moHi l f t | 23, [l, p], [f] => pf minL valLo l p (valLo l f) p.length | 24, [l, p], [f] => pf minL valHi l p (valHi l f) p.length | 25, [l, p], [f] => pf maxL valLo l p (valLo l f) p.length | 26, [l, p], [f] => pf maxL valHi l p (valHi l f) p.length | 27, [], [a, b] => minL a b | 28, [], [a, b] => maxL a b | 29, [a, b], [] => (min a.length b.length : Nat) | _, _, _ => 0
  b := fun n ls xs => match n, ls, xs with | 35, [a, b], [f, t] => decide (upI a b f t < a.length) | 36, [a, b], [f, t] => decide (dnI a b f t < b.length) | 37, [a, b], [] => aboveB a b | 38, [a, b], [f, t] => abvB a b f t | 39, [l], [f, t] => decide (anyI l f t < l.length) | 40, [a, b], [] => sameLn a b | 41, [a, b], [] => decide (dfI a b < (min a.length b.length : Nat)) | 30, [l], [a, v] => decide (kI l a v < l.length ∧ kBad l a v (kI l a v) = true) | 31, [l], [a, v] => decide (kI l a v < l.length) | 32, [l], [] => rightB l | 33, [l], [x] => decide (kAt l x < l.length) | 34, [l], [x] => decide (0 < kAt l x ∧ kAt l x < l.length) | _, _, _ => false
  l := fun n ls xs => match n, ls, xs with | 50, [l], [f, t] => inPl l f t l.length | _, _, _ => []
  rng := rngAt Try.prog
theorem dn_eq (a b : Int) (KK : KS (stdA fsv true)) : sFunc Try.prog 30 (sCall Try.prog 30 (spOf sp0) noLoop 20) noLoop 41 [.i .i64 a, .i .i64 b] .l 0 KK =
  (b ≠ 0 ∧ (InK .i64 (Int.tdiv a b) ∧ (b ≠ 0 ∧ (cond (decide ((Int.tmod a b) < (0 : Int)))
 (InK .i64 ((Int.tdiv a b) - (1 : Int)) ∧ (KK (.i .i64 ((Int.tdiv a b) - (1 : Int))) .l 0 []))
 (KK (.i .i64 (Int.tdiv a b)) .l 0 []))))) := by kernel_rfl
theorem dn_pure {m : Nat} (hm : 100 ≤ m) {H : Hp} {nx : Nat} (a b : Int) (p1 : (-9223372036854775808 : Int) ≤ a) (p2 : a ≤ (9223372036854775807 : Int)) (p3 : (1 : Int) ≤ b) : Pure Try.prog AW m 41 [.i .i64 a, .i .i64 b] H nx (.i .i64 (a / b)) := by
  refine pure_of (n := 20) (d := m - 21) (U := 30) (fs := fsv) (ov := true) sp0_ok sp0_aw noLoop_ok (by decide) (by decide) (by omega) (args := [.i .i64 a, .i .i64 b]) (M := .l) (snx := 0) ?_ (VSL.cons rfl (VSL.cons rfl rfl)) hs_empty
  rw [dn_eq]
  simp only [cond_iff, InK64]
  obtain ⟨h1, h2, h3, h4, h5⟩ := down_math a b p3
  refine ⟨by omega, by omega, by omega, fun h => ⟨?_, end_i (h1 h)⟩, fun h => end_i (h2 h)⟩
  by_cases h0 : 0 ≤ a
  · omega
  · rcases h5 (by omega) h with h5 | h5
    · omega
    · subst h5; simp at h
abbrev dnS {A : Go.Rx.Alg} : List (Go.Rx.SV A) → Go.Rx.SH A → Nat → Go.Rx.KS A → A.R := fun args_ M_ snx_ K_ => match args_ with
  | [.i .i64 a, .i .i64 b] => (A.need .leq (A.lit (-9223372036854775808)) a (A.need .leq a (A.lit 9223372036854775807) (A.need .leq (A.lit 1) b (K_ (.i .i64 (A.app 1 [] [a, b])) M_ snx_ []))))
  | _ => A.fail "dn"
theorem dnS_ok {ov : Bool} {d : Nat} (hd : 100 ≤ d) : SpecOK (fs := fsv) (ov := ov) Try.prog AW d 41 dnS := by
  intro m_ hm_ args_ M_ snx_ K_ h_ ν_ largs_ H_ nx_ ha_ hM_
  unfold dnS at h_
  split at h_
  · rename_i a b
    obtain ⟨y1, r1, rfl, rfl, ⟨y2, r2, rfl, rfl, rfl⟩⟩ := ha_
    obtain ⟨p1, h_⟩ := h_
    obtain ⟨p2, h_⟩ := h_
    obtain ⟨p3, h_⟩ := h_
    exact pure_got (dn_pure (by omega) a b p1 p2 p3) hM_ (v := .i .i64 _) rfl h_
  · exact h_.elim
theorem up_eq (a b : Int) (KK : KS (stdA fsv true)) : sFunc Try.prog 30 (sCall Try.prog 30 (spOf sp0) noLoop 20) noLoop 42 [.i .i64 a, .i .i64 b] .l 0 KK =
  (b ≠ 0 ∧ (InK .i64 (Int.tdiv a b) ∧ (b ≠ 0 ∧ (cond (decide ((Int.tmod a b) > (0 : Int)))
 (InK .i64 ((Int.tdiv a b) + (1 : Int)) ∧ (KK (.i .i64 ((Int.tdiv a b) + (1 : Int))) .l 0 []))
 (KK (.i .i64 (Int.tdiv a b)) .l 0 []))))) := by kernel_rfl
theorem up_pure {m : Nat} (hm : 100 ≤ m) {H : Hp} {nx : Nat} (a b : Int) (p1 : (-9223372036854775808 : Int) ≤ a) (p2 : a ≤ (9223372036854775806 : Int)) (p3 : (1 : Int) ≤ b) : Pure Try.prog AW m 42 [.i .i64 a, .i .i64 b] H nx (.i .i64 (cdiv a b)) := by
  refine pure_of (n := 20) (d := m - 21) (U := 30) (fs := fsv) (ov := true) sp0_ok sp0_aw noLoop_ok (by decide) (by decide) (by omega) (args := [.i .i64 a, .i .i64 b]) (M := .l) (snx := 0) ?_ (VSL.cons rfl (VSL.cons rfl rfl)) hs_empty
  rw [up_eq]
  simp only [cond_iff, InK64]
  obtain ⟨h1, h2, h3, h4⟩ := up_math a b p3
  exact ⟨by omega, by omega, by omega, fun h => ⟨by omega, end_i (h1 h)⟩, fun h => end_i (h2 h)⟩
abbrev upS {A : Go.Rx.Alg} : List (Go.Rx.SV A) → Go.Rx.SH A → Nat → Go.Rx.KS A → A.R := fun args_ M_ snx_ K_ => match args_ with
  | [.i .i64 a, .i .i64 b] => (A.need .leq (A.lit (-9223372036854775808)) a (A.need .leq a (A.lit 9223372036854775806) (A.need .leq (A.lit 1) b (K_ (.i .i64 (A.app 2 [] [a, b])) M_ snx_ []))))
  | _ => A.fail "up"
theorem upS_ok {ov : Bool} {d : Nat} (hd : 100 ≤ d) : SpecOK (fs := fsv) (ov := ov) Try.prog AW d 42 upS := by
  intro m_ hm_ args_ M_ snx_ K_ h_ ν_ largs_ H_ nx_ ha_ hM_
  unfold upS at h_
  split at h_
  · rename_i a b
    obtain ⟨y1, r1, rfl, rfl, ⟨y2, r2, rfl, rfl, rfl⟩⟩ := ha_
    obtain ⟨p1, h_⟩ := h_
    obtain ⟨p2, h_⟩ := h_
    obtain ⟨p3, h_⟩ := h_
    exact pure_got (up_pure (by omega) a b p1 p2 p3) hM_ (v := .i .i64 _) rfl h_
  · exact h_.elim
abbrev spD {A : Go.Rx.Alg} : Go.Rx.SpL A := [(AW, Go.Rx.awakeS), (41, dnS), (42, upS)]
theorem spD_ok {ov : Bool} {d : Nat} (hd : 100 ≤ d) : SpOK (fs := fsv) (ov := ov) Try.prog AW d spD := SpOK.cons awake_ok (SpOK.cons (dnS_ok (by omega)) (SpOK.cons (upS_ok (by omega)) SpOK.nil))
theorem spD_aw {fs : Fs} {ov : Bool} : (spOf (A := stdA fs ov) spD AW).isSome = true := rfl
theorem ck_eq (a v i : Int) (l : Ll) (T : Al (SV (stdA fsv true))) (M : Al (SO (stdA fsv true))) (KK : Ex → List (SV (stdA fsv true)) → List (SO (stdA fsv true)) → List Ll → Prop) : sCode Try.prog (sCall Try.prog 30 (spOf sp0) noLoop 20) ⟨62, false, noLoop 62⟩ 30 (false :: [false, true, false, true, true, true, true]) (bodyAt Try.prog 62 [false, true, false, true, true, true, true]) (hdL (bodyAt Try.prog 62 [false, true, false, true, true, true, true]) T M 74 2 [(3, .p 1 0), (1, .i .i64 a), (2, .i .i64 v), (32, .ls false 0 (Ll.len l)), (33, .i .i64 (Ll.len l))] [(0, .list 0 [.int .i64, .int .i64] false l), (1, .row 64 [.ls false 0 (Ll.len l)])] [(34, .i .i64 i)] [] [] [] []) (outL 2 (tsOf [34] [6]) [] [] [] KK) =
  (cond (decide (i < (Ll.len l)))
 ((0 : Int) ≤ i ∧ (i < (Ll.len l) ∧ (i < (Ll.len l) ∧ (cond (decide ((Ll.get l i 0) < (0 : Int)))
 (KK .ret [(.i .i64 (2 : Int))] [] [])
 (cond (decide ((Ll.get l i 0) > a))
 (KK .ret [(.i .i64 (2 : Int))] [] [])
 (cond (decide ((Ll.get l i 1) < (0 : Int)))
 (KK .ret [(.i .i64 (2 : Int))] [] [])
 (cond (decide ((Ll.get l i 1) > v))
 (KK .ret [(.i .i64 (2 : Int))] [] [])
 (cond (decide (i > (0 : Int)))
 (InK .i64 (i - (1 : Int)) ∧ ((0 : Int) ≤ (i - (1 : Int)) ∧ ((i - (1 : Int)) < (Ll.len l) ∧ ((i - (1 : Int)) < (Ll.len l) ∧ (cond (decide ((Ll.get l i 0) ≤ (Ll.get l (i - (1 : Int)) 0)))
 (KK .ret [(.i .i64 (11 : Int))] [] [])
 (InK .i64 (i + (1 : Int)) ∧ (KK .normal [(.i .i64 (i + (1 : Int)))] [] [])))))))
 (InK .i64 (i + (1 : Int)) ∧ (KK .normal [(.i .i64 (i + (1 : Int)))] [] []))))))))))
 (KK (.exit 0) [(.i .i64 i)] [] [])) := by kernel_rfl
theorem ck_go (a : Int) (v : Int) (l : Ll) (i : Int) (i_0 : Int) (r1 : i_0 = (0 : Int)) (T : Al (SV (stdA fsv true))) (M : Al (SO (stdA fsv true))) (KK : Ex → List (SV (stdA fsv true)) → List (SO (stdA fsv true)) → List Ll → Prop) (p1 : (Ll.len l) ≤ (24 : Int)) (hI : 0 ≤ i ∧ i ≤ kI l a v) (hn : ∀ (i' : Int), 0 ≤ i' ∧ i' ≤ kI l a v → (24 - i').toNat < (24 - i).toNat → KK .normal [.i .i64 i'] [] []) (hx1 : (decide (kI l a v < l.length ∧ kBad l a v (kI l a v) = true)) = true → KK .ret [.i .i64 (2 : Int)] [] []) (hx2 : (decide (kI l a v < l.length ∧ kBad l a v (kI l a v) = true)) = false → (decide (kI l a v < l.length)) = true → KK .ret [.i .i64 (11 : Int)] [] []) (hx3 : (decide (kI l a v < l.length ∧ kBad l a v (kI l a v) = true)) = false → (decide (kI l a v < l.length)) = false → KK (.exit 0) [.i .i64 (Ll.len l)] [] []) :
    sCode Try.prog (sCall Try.prog 30 (spOf sp0) noLoop 20) ⟨62, false, noLoop 62⟩ 30 (false :: [false, true, false, true, true, true, true]) (bodyAt Try.prog 62 [false, true, false, true, true, true, true]) (hdL (bodyAt Try.prog 62 [false, true, false, true, true, true, true]) T M 74 2 [(3, .p 1 0), (1, .i .i64 a), (2, .i .i64 v), (32, .ls false 0 (Ll.len l)), (33, .i .i64 (Ll.len l))] [(0, .list 0 [.int .i64, .int .i64] false l), (1, .row 64 [.ls false 0 (Ll.len l)])] [(34, .i .i64 i)] [] [] [] []) (outL 2 (tsOf [34] [6]) [] [] [] KK) := by
  refine Eq.mpr (ck_eq a v i l T M KK) ?_
  have hl : Ll.len l = (l.length : Int) := rfl
  obtain ⟨i0, i1⟩ := hI
  by_cases h : i < Ll.len l
  · have hs := leastN_step (p := kErr l a v) (k := l.length) i0 i1 (by omega)
    have e1 : kBad l a v i = decide (¬ (0 ≤ Ll.get l i 0 ∧ Ll.get l i 0 ≤ a ∧ 0 ≤ Ll.get l i 1 ∧ Ll.get l i 1 ≤ v)) := rfl
    have e2 : kOrd l i = decide (0 < i ∧ Ll.get l i 0 ≤ Ll.get l (i - 1) 0) := rfl
    have stop2 : ¬ (0 ≤ Ll.get l i 0 ∧ Ll.get l i 0 ≤ a ∧ 0 ≤ Ll.get l i 1 ∧ Ll.get l i 1 ≤ v) → KK .ret [.i .i64 2] [] [] := fun hb => by
      have e : kI l a v = i := hs.1 (by unfold kErr; rw [e1, decide_eq_true hb]; rfl)
      exact hx1 (decide_eq_true ⟨by omega, by rw [e, e1, decide_eq_true hb]⟩)
    have stop11 : (0 ≤ Ll.get l i 0 ∧ Ll.get l i 0 ≤ a ∧ 0 ≤ Ll.get l i 1 ∧ Ll.get l i 1 ≤ v) → (0 < i ∧ Ll.get l i 0 ≤ Ll.get l (i - 1) 0) → KK .ret [.i .i64 11] [] [] := fun hb ho => by
      have e : kI l a v = i := hs.1 (by unfold kErr; rw [e2, decide_eq_true ho, Bool.or_true])
      exact hx2 (decide_eq_false fun hc => by rw [e, e1, decide_eq_false (fun h => h hb)] at hc; cases hc.2) (decide_eq_true (by omega))
    have next : (0 ≤ Ll.get l i 0 ∧ Ll.get l i 0 ≤ a ∧ 0 ≤ Ll.get l i 1 ∧ Ll.get l i 1 ≤ v) → ¬ (0 < i ∧ Ll.get l i 0 ≤ Ll.get l (i - 1) 0) → KK .normal [.i .i64 (i + 1)] [] [] := fun hb ho => hn (i + 1) ⟨by omega, hs.2 (by unfold kErr; rw [e1, e2, decide_eq_false (fun h => h hb), decide_eq_false ho]; rfl)⟩ (by omega)
    clear hs hn hx1 hx2 hx3
    generalize Ll.get l i 0 = c0 at *
    generalize Ll.get l i 1 = c1 at *
    generalize Ll.get l (i - 1) 0 = d0 at *
    simp only [cond_iff, InK64]
    repeat' (first | apply And.intro | intro _)
    all_goals first | omega | exact stop2 (by omega) | exact stop11 (by omega) (by omega) | exact next (by omega) (by omega)
  · rw [decide_eq_false h]
    obtain ⟨_, a2, _, _⟩ := leastN_spec (kErr l a v) l.length 0
    have a3 : kI l a v ≤ l.length := by unfold kI; omega
    obtain rfl : i = Ll.len l := by omega
    exact hx3 (decide_eq_false fun hc => by omega) (decide_eq_false (by omega))
abbrev ckF {A : Go.Rx.Alg} : Code → Go.Rx.SS A → (Go.Rx.Ex → Go.Rx.SS A → A.R) → A.R := fun c_ s_ K_ => match s_.T.get 3, s_.T.get 1, s_.T.get 2, s_.T.get 32, s_.T.get 33, s_.H.get 0, s_.H.get 1, s_.T.get 34 with
  | some (.p 1 0), some (.i .i64 a), some (.i .i64 v), some (.ls false 0 m1), some (.i .i64 m2), some (.list t3 k3 false l), some (.row t4 [.ls false 0 m5]), some (.i .i64 i) => bif ((((Nat.beq s_.N 74 && Nat.beq s_.nx 2) && Nat.beq t3 0) && decide (k3 = [.int .i64, .int .i64])) && Nat.beq t4 64) then (A.need .eql m1 (A.len l) (A.need .eql m2 (A.len l) (A.need .eql m5 (A.len l) (A.need .eql i (A.lit 0) (A.need .leq (A.len l) (A.lit 24) ((A.br (A.appB 30 [l] [a, v]) (fun _ => K_ .ret (Go.Rx.hdL c_ s_.T (Go.Rx.kills [] s_.H) 74 2 [(3, .p 1 0), (1, .i .i64 a), (2, .i .i64 v), (32, .ls false 0 (A.len l)), (33, .i .i64 (A.len l))] [(0, .list 0 [.int .i64, .int .i64] false l), (1, .row 64 [.ls false 0 (A.len l)])] [(6, .i .i64 (A.lit 2))] [] [] [] (Go.Rx.addW ([] ++ []) s_.wr))) (fun _ => (A.br (A.appB 31 [l] [a, v]) (fun _ => K_ .ret (Go.Rx.hdL c_ s_.T (Go.Rx.kills [] s_.H) 74 2 [(3, .p 1 0), (1, .i .i64 a), (2, .i .i64 v), (32, .ls false 0 (A.len l)), (33, .i .i64 (A.len l))] [(0, .list 0 [.int .i64, .int .i64] false l), (1, .row 64 [.ls false 0 (A.len l)])] [(6, .i .i64 (A.lit 11))] [] [] [] (Go.Rx.addW ([] ++ []) s_.wr))) (fun _ => K_ (.exit 0) (Go.Rx.hdL c_ s_.T (Go.Rx.kills [] s_.H) 74 2 [(3, .p 1 0), (1, .i .i64 a), (2, .i .i64 v), (32, .ls false 0 (A.len l)), (33, .i .i64 (A.len l))] [(0, .list 0 [.int .i64, .int .i64] false l), (1, .row 64 [.ls false 0 (A.len l)])] [(34, .i .i64 (A.len l))] [] [] [] (Go.Rx.addW ([] ++ []) s_.wr)))))))))))) else A.fail "frame of ck"
  | _, _, _, _, _, _, _, _ => A.fail "ck"
theorem ckF_ok {d : Nat} (hd : 100 ≤ d) : LoopOK (fs := fsv) (ov := true) Try.prog AW d 62 [false, true, false, true, true, true, true] false ckF := by
  intro m_ hm_ fn_ c0_ hfn_ hb_ c_ ro_ hro_ hc_ s_ K_ W_ ν_ S_ h_ hs_
  obtain rfl := body_of hfn_ hb_ hc_
  unfold ckF at h_
  split at h_
  · rename_i a_0 v_0 m1_0 m2_0 t3 k3 l_0 t4 m5_0 i_0_0 g0 g1 g2 g3 g4 g5 g6 g7
    obtain ⟨a, rfl⟩ : ∃ q : Int, q = a_0 := ⟨a_0, rfl⟩
    obtain ⟨v, rfl⟩ : ∃ q : Int, q = v_0 := ⟨v_0, rfl⟩
    obtain ⟨m1, rfl⟩ : ∃ q : Int, q = m1_0 := ⟨m1_0, rfl⟩
    obtain ⟨m2, rfl⟩ : ∃ q : Int, q = m2_0 := ⟨m2_0, rfl⟩
    obtain ⟨l, rfl⟩ : ∃ q : Ll, q = l_0 := ⟨l_0, rfl⟩
    obtain ⟨m5, rfl⟩ : ∃ q : Int, q = m5_0 := ⟨m5_0, rfl⟩
    obtain ⟨i_0, rfl⟩ : ∃ q : Int, q = i_0_0 := ⟨i_0_0, rfl⟩
    obtain ⟨T_, FN_, M_, snx_, wr_⟩ := s_
    have hN : ((((Nat.beq FN_ 74 && Nat.beq snx_ 2) && Nat.beq t3 0) && decide (k3 = [.int .i64, .int .i64])) && Nat.beq t4 64) = true := by
      cases hq : (((((Nat.beq FN_ 74 && Nat.beq snx_ 2) && Nat.beq t3 0) && decide (k3 = [.int .i64, .int .i64])) && Nat.beq t4 64) : Bool) with
      | true => rfl
      | false => (rw [hq] at h_; exact h_.elim)
    rw [hN, cond_true] at h_
    simp only [Bool.and_eq_true, beq_iff, decide_eq_true_eq] at hN
    obtain ⟨⟨⟨⟨rfl, rfl⟩, rfl⟩, rfl⟩, rfl⟩ := hN
    obtain ⟨q0, h_⟩ := h_
    obtain rfl : m1 = (Ll.len l) := q0
    obtain ⟨q0, h_⟩ := h_
    obtain rfl : m2 = (Ll.len l) := q0
    obtain ⟨q0, h_⟩ := h_
    obtain rfl : m5 = (Ll.len l) := q0
    obtain ⟨q1, h_⟩ := h_
    have q1 : i_0 = (0 : Int) := q1
    obtain ⟨q2, h_⟩ := h_
    have q2 : (Ll.len l) ≤ (24 : Int) := q2
    replace h_ : cond (decide (kI l a v < l.length ∧ kBad l a v (kI l a v) = true)) (K_ .ret (hdL (bodyAt Try.prog 62 [false, true, false, true, true, true, true]) T_ (kills [] M_) 74 2 [(3, .p 1 0), (1, .i .i64 a), (2, .i .i64 v), (32, .ls false 0 (Ll.len l)), (33, .i .i64 (Ll.len l))] [(0, .list 0 [.int .i64, .int .i64] false l), (1, .row 64 [.ls false 0 (Ll.len l)])] [(6, .i .i64 (2 : Int))] [] [] [] (addW ([] ++ []) wr_))) (cond (decide (kI l a v < l.length)) (K_ .ret (hdL (bodyAt Try.prog 62 [false, true, false, true, true, true, true]) T_ (kills [] M_) 74 2 [(3, .p 1 0), (1, .i .i64 a), (2, .i .i64 v), (32, .ls false 0 (Ll.len l)), (33, .i .i64 (Ll.len l))] [(0, .list 0 [.int .i64, .int .i64] false l), (1, .row 64 [.ls false 0 (Ll.len l)])] [(6, .i .i64 (11 : Int))] [] [] [] (addW ([] ++ []) wr_))) (K_ (.exit 0) (hdL (bodyAt Try.prog 62 [false, true, false, true, true, true, true]) T_ (kills [] M_) 74 2 [(3, .p 1 0), (1, .i .i64 a), (2, .i .i64 v), (32, .ls false 0 (Ll.len l)), (33, .i .i64 (Ll.len l))] [(0, .list 0 [.int .i64, .int .i64] false l), (1, .row 64 [.ls false 0 (Ll.len l)])] [(34, .i .i64 (Ll.len l))] [] [] [] (addW ([] ++ []) wr_)))) := h_
    have hx1 : (decide (kI l a v < l.length ∧ kBad l a v (kI l a v) = true)) = true → K_ .ret (hdL (bodyAt Try.prog 62 [false, true, false, true, true, true, true]) T_ (kills [] M_) 74 2 [(3, .p 1 0), (1, .i .i64 a), (2, .i .i64 v), (32, .ls false 0 (Ll.len l)), (33, .i .i64 (Ll.len l))] [(0, .list 0 [.int .i64, .int .i64] false l), (1, .row 64 [.ls false 0 (Ll.len l)])] [(6, .i .i64 (2 : Int))] [] [] [] (addW ([] ++ []) wr_)) := fun e1 => by
      have h2 := h_
      rw [e1] at h2; simp only [cond_true, cond_false] at h2; exact h2
    have hx2 : (decide (kI l a v < l.length ∧ kBad l a v (kI l a v) = true)) = false → (decide (kI l a v < l.length)) = true → K_ .ret (hdL (bodyAt Try.prog 62 [false, true, false, true, true, true, true]) T_ (kills [] M_) 74 2 [(3, .p 1 0), (1, .i .i64 a), (2, .i .i64 v), (32, .ls false 0 (Ll.len l)), (33, .i .i64 (Ll.len l))] [(0, .list 0 [.int .i64, .int .i64] false l), (1, .row 64 [.ls false 0 (Ll.len l)])] [(6, .i .i64 (11 : Int))] [] [] [] (addW ([] ++ []) wr_)) := fun e1 e2 => by
      have h2 := h_
      rw [e1] at h2; simp only [cond_true, cond_false] at h2; rw [e2] at h2; simp only [cond_true, cond_false] at h2; exact h2
    have hx3 : (decide (kI l a v < l.length ∧ kBad l a v (kI l a v) = true)) = false → (decide (kI l a v < l.length)) = false → K_ (.exit 0) (hdL (bodyAt Try.prog 62 [false, true, false, true, true, true, true]) T_ (kills [] M_) 74 2 [(3, .p 1 0), (1, .i .i64 a), (2, .i .i64 v), (32, .ls false 0 (Ll.len l)), (33, .i .i64 (Ll.len l))] [(0, .list 0 [.int .i64, .int .i64] false l), (1, .row 64 [.ls false 0 (Ll.len l)])] [(34, .i .i64 (Ll.len l))] [] [] [] (addW ([] ++ []) wr_)) := fun e1 e2 => by
      have h2 := h_
      rw [e1] at h2; simp only [cond_true, cond_false] at h2; rw [e2] at h2; simp only [cond_true, cond_false] at h2; exact h2
    refine loop_ruleL (fs := fsv) (ov := true) (s := ⟨T_, 74, M_, 2, wr_⟩) (X := Int) (B := []) (mv := []) (kt := [(3, .p 1 0), (1, .i .i64 a), (2, .i .i64 v), (32, .ls false 0 (Ll.len l)), (33, .i .i64 (Ll.len l))]) (kr := [(0, .list 0 [.int .i64, .int .i64] false l), (1, .row 64 [.ls false 0 (Ll.len l)])]) (ty := []) (x := (i_0))
      (Inv := (fun x_ : Int => match x_ with | (i) => 0 ≤ i ∧ i ≤ kI l a v)) (μ := (fun x_ : Int => match x_ with | (i) => (24 - i).toNat)) (ts := tsOf [34] [6]) (sl := (fun x_ : Int => match x_ with | (i) => [.i .i64 i])) (bl := (fun x_ : Int => match x_ with | (i) => [])) (ll := (fun x_ : Int => match x_ with | (i) => [])) (Q := fun e_ vs_ os_ hs_ => K_ e_ (hdL (bodyAt Try.prog 62 [false, true, false, true, true, true, true]) T_ (kills [] M_) 74 2 [(3, .p 1 0), (1, .i .i64 a), (2, .i .i64 v), (32, .ls false 0 (Ll.len l)), (33, .i .i64 (Ll.len l))] [(0, .list 0 [.int .i64, .int .i64] false l), (1, .row 64 [.ls false 0 (Ll.len l)])] (((tsOf [34] [6]) e_).zip vs_) ([].zip os_) [] hs_ (addW ([] ++ []) wr_)))
      (L := LL) (U := 30) (cs := sCall Try.prog 30 (spOf sp0) noLoop 20) (call := CN Try.prog AW m_) (lp := ⟨62, false, noLoop 62⟩) (root := c0_) (p := [false, true, false, true, true, true, true])
      (show CallSOK _ _ from by
        have := sCall_ok (P := Try.prog) (d := m_ - 20) (U := 30) (lp := noLoop) (sp0_ok (fs := fsv) (ov := true) (d := m_ - 20)) (sp0_aw (fs := fsv) (ov := true)) (noLoop_ok) (by decide) rfl 20
        rwa [show 20 + (m_ - 20) = m_ by omega] at this) (ctx_of (g := 62) (rg := false) (at_ := noLoop 62) (fun p rg f h => by cases h) hfn_ hb_ hro_) (by decide) hc_
      (fun x o ho => by cases ho)
      (fun x hx => by cases hx) (fun x hx => by cases hx) (fun x hx => by cases hx)
      (fun x hx => by
        simp only [List.mem_cons, List.not_mem_nil, or_false] at hx
        rcases hx with rfl | rfl | rfl | rfl | rfl
        · exact g0
        · exact g1
        · exact g2
        · exact g3
        · exact g4) (fun x hx => by
        simp only [List.mem_cons, List.not_mem_nil, or_false] at hx
        rcases hx with rfl | rfl
        · exact ⟨g5, by simp⟩
        · exact ⟨g6, by simp⟩) ?_ (fun _ _ _ _ _ h => h) ?_ ?_ ?_ hs_
    · rintro i hI
      exact ck_go a v l i i_0 q1 T_ (kills [] M_) _ q2 hI (fun i' ha hb => ⟨(i'), ha, hb, rfl, rfl, rfl⟩) (fun e1 => ⟨by simp [SO.mine], hx1 e1⟩) (fun e1 e2 => ⟨by simp [SO.mine], hx2 e1 e2⟩) (fun e1 e2 => ⟨by simp [SO.mine], hx3 e1 e2⟩)
    · show 0 ≤ i_0 ∧ i_0 ≤ kI l a v
      exact ⟨by omega, by rw [q1]; exact (leastN_spec (kErr l a v) l.length 0).1⟩
    · show (24 - i_0).toNat < LL
      exact Nat.lt_of_le_of_lt (show _ ≤ 1000 by omega) (by decide)
    · exact ⟨⟨[.i .i64 i_0], [], [], [], by simp [gets, tsOf, g0, g1, g2, g3, g4, g5, g6, g7], by simp [gets, g0, g1, g2, g3, g4, g5, g6, g7], rfl, rfl, by simp [listsOf] <;> rfl⟩⟩
  · exact h_.elim
abbrev lpck {A : Go.Rx.Alg} : Nat → Go.Rx.LoopS A := Go.Rx.lpOf [(62, [false, true, false, true, true, true, true], false, ckF)]
theorem lpck_ok {d : Nat} (hd : 100 ≤ d) : LoopsAll (fs := fsv) (ov := true) Try.prog AW d lpck := lpOf_ok fun x hx => by
  simp only [List.mem_cons, List.not_mem_nil, or_false] at hx
  rcases hx with rfl
  · exact ckF_ok (by omega)
theorem check_eq (a v : Int) (l : Ll) (KK : KS (stdA fsv true)) : sFunc Try.prog 30 (sCall Try.prog 30 (spOf sp0) lpck 20) lpck 62 [.agg [.ls false 0 (Ll.len l)], .i .i64 a, .i .i64 v] (lsMem 0 [([.int .i64, .int .i64], l)]) 1 KK =
  (cond (decide (a < (0 : Int)))
 (KK (.i .i64 (2 : Int)) (lsMem 0 [([.int .i64, .int .i64], l)]) 1 [])
 (cond (decide (a > (1099511627776 : Int)))
 (KK (.i .i64 (2 : Int)) (lsMem 0 [([.int .i64, .int .i64], l)]) 1 [])
 (cond (decide (v < (0 : Int)))
 (KK (.i .i64 (2 : Int)) (lsMem 0 [([.int .i64, .int .i64], l)]) 1 [])
 (cond (decide (v > (68719476736 : Int)))
 (KK (.i .i64 (2 : Int)) (lsMem 0 [([.int .i64, .int .i64], l)]) 1 [])
 (cond (decide ((Ll.len l) = (0 : Int)))
 (KK (.i .i64 (6 : Int)) (lsMem 0 [([.int .i64, .int .i64], l)]) 1 [])
 (cond (decide ((Ll.len l) > (24 : Int)))
 (KK (.i .i64 (8 : Int)) (lsMem 0 [([.int .i64, .int .i64], l)]) 1 [])
 ((Ll.len l) = (Ll.len l) ∧ ((Ll.len l) = (Ll.len l) ∧ ((Ll.len l) = (Ll.len l) ∧ ((0 : Int) = (0 : Int) ∧ ((Ll.len l) ≤ (24 : Int) ∧ (cond (decide (kI l a v < l.length ∧ kBad l a v (kI l a v) = true))
 (KK (.i .i64 (2 : Int)) (lsMem 0 [([.int .i64, .int .i64], l)]) 1 [])
 (cond (decide (kI l a v < l.length))
 (KK (.i .i64 (11 : Int)) (lsMem 0 [([.int .i64, .int .i64], l)]) 1 [])
 (KK (.i .i64 (0 : Int)) (lsMem 0 [([.int .i64, .int .i64], l)]) 1 [])))))))))))))) := by kernel_rfl
theorem check_pure {m : Nat} (hm : 200 ≤ m) {H : Hp} {nx : Nat} (a v : Int) {v_l : LV} {l : Ll} (hl_l : IsL H nx [.int .i64, .int .i64] l v_l) : Pure Try.prog AW m 62 [.agg [v_l], .i .i64 a, .i .i64 v] H nx (.i .i64 (lchk l a v)) := by
  obtain ⟨ν, n1, n2, n3, n4⟩ := ls_in (fs := fsv) (ov := true) (l := [([.int .i64, .int .i64], l)]) (lvs := [v_l]) 0 (fun i x lv e1 e2 => by
    cases i with
    | zero => simp at e1 e2; subst e1 e2; exact hl_l
    | succ i =>
      simp at e1) rfl
  refine pure_of (n := 20) (d := m - 21) (U := 30) (fs := fsv) (ov := true) sp0_ok sp0_aw (lpck_ok (by omega)) (by decide) (by decide) (by omega) (args := [.agg [.ls false 0 (Ll.len l)], .i .i64 a, .i .i64 v]) (M := lsMem 0 [([.int .i64, .int .i64], l)]) (snx := 1) ?_ (VSL.cons ⟨_, rfl, (VSL.cons (n4 0 _ _ rfl rfl) rfl)⟩ (VSL.cons rfl (VSL.cons rfl rfl))) (hs_in n2 n3)
  rw [check_eq]
  have hl : Ll.len l = (l.length : Int) := rfl
  have c0 : lchk l a v = if ¬ (0 ≤ a ∧ a ≤ 1099511627776 ∧ 0 ≤ v ∧ v ≤ 68719476736) then 2 else if l.length = 0 then 6 else if 24 < l.length then 8 else if kI l a v < l.length then (if kBad l a v (kI l a v) then 2 else 11) else 0 := rfl
  have r1 : ¬ (0 ≤ a ∧ a ≤ 1099511627776 ∧ 0 ≤ v ∧ v ≤ 68719476736) → (2 : Int) = lchk l a v := fun h => by rw [c0, if_pos h]
  have r2 : (0 ≤ a ∧ a ≤ 1099511627776 ∧ 0 ≤ v ∧ v ≤ 68719476736) → l.length = 0 → (6 : Int) = lchk l a v := fun h h2 => by rw [c0, if_neg (fun hc => hc h), if_pos h2]
  have r3 : (0 ≤ a ∧ a ≤ 1099511627776 ∧ 0 ≤ v ∧ v ≤ 68719476736) → 24 < l.length → (8 : Int) = lchk l a v := fun h h2 => by rw [c0, if_neg (fun hc => hc h), if_neg (by omega), if_pos h2]
  have r4 : (0 ≤ a ∧ a ≤ 1099511627776 ∧ 0 ≤ v ∧ v ≤ 68719476736) → l.length ≠ 0 → ¬ 24 < l.length → (kI l a v < l.length ∧ kBad l a v (kI l a v) = true) → (2 : Int) = lchk l a v := fun h h2 h3 h4 => by rw [c0, if_neg (fun hc => hc h), if_neg h2, if_neg h3, if_pos h4.1, if_pos h4.2]
  have r5 : (0 ≤ a ∧ a ≤ 1099511627776 ∧ 0 ≤ v ∧ v ≤ 68719476736) → l.length ≠ 0 → ¬ 24 < l.length → ¬ (kI l a v < l.length ∧ kBad l a v (kI l a v) = true) → kI l a v < l.length → (11 : Int) = lchk l a v := fun h h2 h3 h4 h5 => by rw [c0, if_neg (fun hc => hc h), if_neg h2, if_neg h3, if_pos h5, if_neg (fun hc => h4 ⟨h5, hc⟩)]
  have r6 : (0 ≤ a ∧ a ≤ 1099511627776 ∧ 0 ≤ v ∧ v ≤ 68719476736) → l.length ≠ 0 → ¬ 24 < l.length → ¬ kI l a v < l.length → (0 : Int) = lchk l a v := fun h h2 h3 h5 => by rw [c0, if_neg (fun hc => hc h), if_neg h2, if_neg h3, if_neg h5]
  clear c0
  generalize lchk l a v = W at *
  simp only [cond_iff]
  repeat' (first | apply And.intro | intro _)
  all_goals first
    | trivial
    | omega
    | exact end_i (r1 (by omega))
    | exact end_i (r2 (by omega) (by omega))
    | exact end_i (r3 (by omega) (by omega))
    | exact end_i (r4 (by omega) (by omega) (by omega) (by assumption))
    | exact end_i (r5 (by omega) (by omega) (by omega) (by assumption) (by assumption))
    | exact end_i (r6 (by omega) (by omega) (by omega) (by assumption))
abbrev checkS {A : Go.Rx.Alg} : List (Go.Rx.SV A) → Go.Rx.SH A → Nat → Go.Rx.KS A → A.R := fun args_ M_ snx_ K_ => match args_ with
  | [.agg [x_l], .i .i64 a, .i .i64 v] => (match Go.Rx.lsArg M_ [.int .i64, .int .i64] x_l with | some (l, n_l) => (A.need .eql n_l (A.len l) (K_ (.i .i64 (A.app 3 [l] [a, v])) M_ snx_ [])) | none => A.fail "check")
  | _ => A.fail "check"
theorem checkS_ok {ov : Bool} {d : Nat} (hd : 200 ≤ d) : SpecOK (fs := fsv) (ov := ov) Try.prog AW d 62 checkS := by
  intro m_ hm_ args_ M_ snx_ K_ h_ ν_ largs_ H_ nx_ ha_ hM_
  unfold checkS at h_
  split at h_
  · rename_i x_l a v
    obtain ⟨y1, r1, rfl, ⟨l1, rfl, ⟨v_l, r2, rfl, hx_l, rfl⟩⟩, ⟨y3, r3, rfl, rfl, ⟨y4, r4, rfl, rfl, rfl⟩⟩⟩ := ha_
    split at h_
    · rename_i l n_l q_l
      obtain ⟨e_l, h_⟩ := h_
      exact pure_got (check_pure (by omega) a v (lsArg_ok hM_ hx_l q_l e_l)) hM_ (v := .i .i64 _) rfl h_
    · exact h_.elim
  · exact h_.elim
abbrev spE {A : Go.Rx.Alg} : Go.Rx.SpL A := [(AW, Go.Rx.awakeS), (62, checkS)]
theorem spE_ok {ov : Bool} {d : Nat} (hd : 200 ≤ d) : SpOK (fs := fsv) (ov := ov) Try.prog AW d spE := SpOK.cons awake_ok (SpOK.cons (checkS_ok (by omega)) SpOK.nil)
theorem spE_aw {fs : Fs} {ov : Bool} : (spOf (A := stdA fs ov) spE AW).isSome = true := rfl
theorem right_eq (l : Ll) (KK : KS (stdA fsv true)) : sFunc Try.prog 30 (sCall Try.prog 30 (spOf spE) noLoop 20) noLoop 51 [.agg [.ls false 0 (Ll.len l)]] (lsMem 0 [([.int .i64, .int .i64], l)]) 1 KK =
  ((Ll.len l) = (Ll.len l) ∧ (cond (decide ((lchk l (1048576 : Int) (68719476736 : Int)) = (0 : Int)))
 (KK (.b true) (lsMem 0 [([.int .i64, .int .i64], l)]) 1 [])
 ((Ll.len l) = (Ll.len l) ∧ (KK (.b (decide ((lchk l (1099511627776 : Int) (1048576 : Int)) = (0 : Int)))) (lsMem 0 [([.int .i64, .int .i64], l)]) 1 [])))) := by kernel_rfl
theorem right_pure {m : Nat} (hm : 300 ≤ m) {H : Hp} {nx : Nat} {v_l : LV} {l : Ll} (hl_l : IsL H nx [.int .i64, .int .i64] l v_l) : Pure Try.prog AW m 51 [.agg [v_l]] H nx (.b (rightB l)) := by
  obtain ⟨ν, n1, n2, n3, n4⟩ := ls_in (fs := fsv) (ov := true) (l := [([.int .i64, .int .i64], l)]) (lvs := [v_l]) 0 (fun i x lv e1 e2 => by
    cases i with
    | zero => simp at e1 e2; subst e1 e2; exact hl_l
    | succ i =>
      simp at e1) rfl
  refine pure_of (n := 20) (d := m - 21) (U := 30) (fs := fsv) (ov := true) (spE_ok (by omega)) spE_aw noLoop_ok (by decide) (by decide) (by omega) (args := [.agg [.ls false 0 (Ll.len l)]]) (M := lsMem 0 [([.int .i64, .int .i64], l)]) (snx := 1) ?_ (VSL.cons ⟨_, rfl, (VSL.cons (n4 0 _ _ rfl rfl) rfl)⟩ rfl) (hs_in n2 n3)
  rw [right_eq]
  have c0 : rightB l = (decide (lchk l 1048576 68719476736 = 0) || decide (lchk l 1099511627776 1048576 = 0)) := rfl
  rw [c0]
  by_cases h : lchk l 1048576 68719476736 = 0
  · rw [decide_eq_true h]
    repeat' (first | exact end_b rfl | apply And.intro)
    all_goals first | trivial | omega
  · rw [decide_eq_false h]
    repeat' (first | exact end_b (Bool.false_or _).symm | apply And.intro)
    all_goals first | trivial | omega
abbrev rightS {A : Go.Rx.Alg} : List (Go.Rx.SV A) → Go.Rx.SH A → Nat → Go.Rx.KS A → A.R := fun args_ M_ snx_ K_ => match args_ with
  | [.agg [x_l]] => (match Go.Rx.lsArg M_ [.int .i64, .int .i64] x_l with | some (l, n_l) => (A.need .eql n_l (A.len l) (K_ (.b (A.appB 32 [l] [])) M_ snx_ [])) | none => A.fail "right")
  | _ => A.fail "right"
theorem rightS_ok {ov : Bool} {d : Nat} (hd : 300 ≤ d) : SpecOK (fs := fsv) (ov := ov) Try.prog AW d 51 rightS := by
  intro m_ hm_ args_ M_ snx_ K_ h_ ν_ largs_ H_ nx_ ha_ hM_
  unfold rightS at h_
  split at h_
  · rename_i x_l
    obtain ⟨y1, r1, rfl, ⟨l1, rfl, ⟨v_l, r2, rfl, hx_l, rfl⟩⟩, rfl⟩ := ha_
    split at h_
    · rename_i l n_l q_l
      obtain ⟨e_l, h_⟩ := h_
      exact pure_got (right_pure (by omega) (lsArg_ok hM_ hx_l q_l e_l)) hM_ (v := .b _) rfl h_
    · exact h_.elim
  · exact h_.elim
end Go.Proofs.Ytfjilbjofaommaa
