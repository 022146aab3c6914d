/-
  Layer 2: values of lines.
-/
import Derived.Test.YtfjilbjofaommaaMv
set_option linter.unusedSimpArgs false
set_option linter.unusedVariables false
set_option maxRecDepth 100000
namespace Go.Proofs.Ytfjilbjofaommaa
open Go Go.Rx

theorem eva_eq (x i z1 z2 ba bv : Int) (l : Ll) (T : Al (SV (stdA fsv true))) (M : Al (SO (stdA fsv true))) (KK : Ex → List (SV (stdA fsv true)) → List (SO (stdA fsv true)) → List Ll → Prop) : sCode Try.prog (sCall Try.prog 30 (spOf spD) noLoop 20) ⟨52, false, noLoop 52⟩ 30 (false :: [false, true, false, true, true]) (bodyAt Try.prog 52 [false, true, false, true, true]) (hdL (bodyAt Try.prog 52 [false, true, false, true, true]) T M 45 4 [(13, .ls false 0 (Ll.len l)), (14, .i .i64 (Ll.len l)), (1, .i .i64 x), (4, .p 2 0), (5, .p 3 0)] [(0, .list 0 [.int .i64, .int .i64] false l)] [(15, .i .i64 i)] [(2, .row 34 [.i .i64 z1, .i .i64 z2]), (3, .row 82 [.i .i64 ba, .i .i64 bv])] [] [] []) (outL 4 (tsOf [15] []) [2, 3] [] [] KK) =
  (cond (decide (i < (Ll.len l)))
 ((0 : Int) ≤ i ∧ (i < (Ll.len l) ∧ (i < (Ll.len l) ∧ (cond (decide (x ≤ (Ll.get l i 0)))
 (cond (decide (x ≤ ba))
 (KK .ret [] [(.row 34 [(.i .i64 bv), (.i .i64 bv)]), (.row 82 [(.i .i64 ba), (.i .i64 bv)])] [])
 ((0 : Int) ≤ (1 : Int) ∧ ((1 : Int) < (2 : Int) ∧ ((0 : Int) ≤ (0 : Int) ∧ ((0 : Int) < (2 : Int) ∧ (InK .i64 ((Ll.get l i 0) - ba) ∧ ((0 : Int) ≤ (1 : Int) ∧ ((1 : Int) < (2 : Int) ∧ ((0 : Int) ≤ (0 : Int) ∧ ((0 : Int) < (2 : Int) ∧ (InK .i64 ((Ll.get l i 1) - bv) ∧ ((0 : Int) ≤ (0 : Int) ∧ ((0 : Int) < (2 : Int) ∧ (InK .i64 (x - ba) ∧ (InK .i64 (((Ll.get l i 1) - bv) * (x - ba)) ∧ ((0 : Int) ≤ (0 : Int) ∧ ((0 : Int) < (2 : Int) ∧ ((-9223372036854775808 : Int) ≤ (((Ll.get l i 1) - bv) * (x - ba)) ∧ ((((Ll.get l i 1) - bv) * (x - ba)) ≤ (9223372036854775807 : Int) ∧ ((1 : Int) ≤ ((Ll.get l i 0) - ba) ∧ (InK .i64 (bv + ((((Ll.get l i 1) - bv) * (x - ba)) / ((Ll.get l i 0) - ba))) ∧ ((0 : Int) ≤ (0 : Int) ∧ ((0 : Int) < (2 : Int) ∧ ((-9223372036854775808 : Int) ≤ (((Ll.get l i 1) - bv) * (x - ba)) ∧ ((((Ll.get l i 1) - bv) * (x - ba)) ≤ (9223372036854775806 : Int) ∧ ((1 : Int) ≤ ((Ll.get l i 0) - ba) ∧ (InK .i64 (bv + (cdiv (((Ll.get l i 1) - bv) * (x - ba)) ((Ll.get l i 0) - ba))) ∧ (KK .ret [] [(.row 34 [(.i .i64 (bv + ((((Ll.get l i 1) - bv) * (x - ba)) / ((Ll.get l i 0) - ba)))), (.i .i64 (bv + (cdiv (((Ll.get l i 1) - bv) * (x - ba)) ((Ll.get l i 0) - ba))))]), (.row 82 [(.i .i64 ba), (.i .i64 bv)])] []))))))))))))))))))))))))))))
 (InK .i64 (i + (1 : Int)) ∧ (KK .normal [(.i .i64 (i + (1 : Int)))] [(.row 34 [(.i .i64 z1), (.i .i64 z2)]), (.row 82 [(.i .i64 (Ll.get l i 0)), (.i .i64 (Ll.get l i 1))])] []))))))
 (KK (.exit 0) [(.i .i64 i)] [(.row 34 [(.i .i64 z1), (.i .i64 z2)]), (.row 82 [(.i .i64 ba), (.i .i64 bv)])] [])) := by kernel_rfl
theorem eva_go (x : Int) (l : Ll) (i : Int) (z1 : Int) (z2 : Int) (ba : Int) (bv : Int) (i_0 : Int) (z1_0 : Int) (z2_0 : Int) (ba_0 : Int) (bv_0 : Int) (r1 : i_0 = (0 : Int)) (r2 : ba_0 = (Ll.get l (0 : Int) 0)) (r3 : bv_0 = (Ll.get l (0 : Int) 1)) (T : Al (SV (stdA fsv true))) (M : Al (SO (stdA fsv true))) (KK : Ex → List (SV (stdA fsv true)) → List (SO (stdA fsv true)) → List Ll → Prop) (p1 : (rightB l) = true) (hI : 0 ≤ i ∧ i ≤ kAt l x ∧ z1 = z1_0 ∧ z2 = z2_0 ∧ ba = Ll.get l (pk i) 0 ∧ bv = Ll.get l (pk i) 1) (hn : ∀ (i' : Int) (z1' : Int) (z2' : Int) (ba' : Int) (bv' : Int), 0 ≤ i' ∧ i' ≤ kAt l x ∧ z1' = z1_0 ∧ z2' = z2_0 ∧ ba' = Ll.get l (pk i') 0 ∧ bv' = Ll.get l (pk i') 1 → (24 - i').toNat < (24 - i).toNat → KK .normal [.i .i64 i'] [.row 34 [.i .i64 z1', .i .i64 z2'], .row 82 [.i .i64 ba', .i .i64 bv']] []) (hx1 : (decide (kAt l x < l.length)) = true → KK .ret [] [.row 34 [.i .i64 (valLo l x), .i .i64 (valHi l x)], .row 82 [.i .i64 (Ll.get l (pk (kAt l x)) 0), .i .i64 (Ll.get l (pk (kAt l x)) 1)]] []) (hx2 : (decide (kAt l x < l.length)) = false → KK (.exit 0) [.i .i64 (Ll.len l)] [.row 34 [.i .i64 z1_0, .i .i64 z2_0], .row 82 [.i .i64 (Ll.get l (l.length - 1) 0), .i .i64 (Ll.get l (l.length - 1) 1)]] []) :
    sCode Try.prog (sCall Try.prog 30 (spOf spD) noLoop 20) ⟨52, false, noLoop 52⟩ 30 (false :: [false, true, false, true, true]) (bodyAt Try.prog 52 [false, true, false, true, true]) (hdL (bodyAt Try.prog 52 [false, true, false, true, true]) T M 45 4 [(13, .ls false 0 (Ll.len l)), (14, .i .i64 (Ll.len l)), (1, .i .i64 x), (4, .p 2 0), (5, .p 3 0)] [(0, .list 0 [.int .i64, .int .i64] false l)] [(15, .i .i64 i)] [(2, .row 34 [.i .i64 z1, .i .i64 z2]), (3, .row 82 [.i .i64 ba, .i .i64 bv])] [] [] []) (outL 4 (tsOf [15] []) [2, 3] [] [] KK) := by
  refine Eq.mpr (eva_eq x i z1 z2 ba bv l T M KK) ?_
  have hl : Ll.len l = (l.length : Int) := rfl
  have hR := right_of p1
  have hk := kAt_spec l x
  have hlen := hR.len
  obtain ⟨i0, i1, rfl, rfl, rfl, rfl⟩ := hI
  by_cases h : i < Ll.len l
  · have hs := leastN_step (p := fun j => decide (x ≤ Ll.get l j 0)) (k := l.length) i0 i1 (by omega)
    by_cases hx : x ≤ Ll.get l i 0
    · have e : kAt l x = i := hs.1 (decide_eq_true hx)
      have hx1' := hx1 (decide_eq_true (by omega))
      rw [e] at hx1'
      have v0 : valLo l x = if kAt l x = 0 then Ll.get l 0 1 else if kAt l x = l.length then Ll.get l (l.length - 1) 1 else Ll.get l (kAt l x - 1) 1 + over l (kAt l x) x / wide l (kAt l x) := rfl
      have v1 : valHi l x = if kAt l x = 0 then Ll.get l 0 1 else if kAt l x = l.length then Ll.get l (l.length - 1) 1 else Ll.get l (kAt l x - 1) 1 + cdiv (over l (kAt l x) x) (wide l (kAt l x)) := rfl
      rw [e] at v0 v1
      rw [decide_eq_true h, decide_eq_true hx]
      by_cases hz : i = 0
      · subst hz
        rw [if_pos rfl] at v0 v1
        rw [v0, v1] at hx1'
        have hp : pk 0 = 0 := rfl
        rw [hp] at *
        rw [decide_eq_true hx]
        exact ⟨i0, h, h, hx1'⟩
      · rw [if_neg hz, if_neg (by omega)] at v0 v1
        have hp : pk i = i - 1 := if_neg hz
        have hb := hk.2.2.1 (i - 1) (by omega) (by omega)
        have ho := over_bd hR (show 0 < i by omega) (by omega) (by omega) hx
        rw [v0, v1, hp] at hx1'
        rw [hp]
        rw [decide_eq_false (show ¬ x ≤ Ll.get l (i - 1) 0 by omega)]
        have e1 : (Ll.get l i 1 - Ll.get l (i - 1) 1) * (x - Ll.get l (i - 1) 0) = over l i x := rfl
        have e2 : Ll.get l i 0 - Ll.get l (i - 1) 0 = wide l i := rfl
        have hv := val_bd hR (show 0 < i by omega) (by omega) (by omega) hx
        have hg : 0 ≤ Ll.get l i 0 ∧ Ll.get l i 0 ≤ 1099511627776 ∧ 0 ≤ Ll.get l i 1 ∧ Ll.get l i 1 ≤ 68719476736 := hR.any (by omega) (by omega)
        have hg2 : 0 ≤ Ll.get l (i - 1) 0 ∧ Ll.get l (i - 1) 0 ≤ 1099511627776 ∧ 0 ≤ Ll.get l (i - 1) 1 ∧ Ll.get l (i - 1) 1 ≤ 68719476736 := hR.any (by omega) (by omega)
        simp only [InK64, e1, e2]
        refine ⟨i0, h, h, ?_⟩
        repeat' (first | exact hx1' | apply And.intro)
        all_goals first | trivial | omega
    · have e : decide (x ≤ Ll.get l i 0) = false := decide_eq_false hx
      have hp : pk (i + 1) = i := by unfold pk; rw [if_neg (by omega)]; omega
      have hn' := hn (i + 1) _ _ _ _ ⟨by omega, hs.2 e, rfl, rfl, rfl, rfl⟩ (by omega)
      rw [hp] at hn'
      rw [decide_eq_true h, e]
      exact ⟨i0, h, h, by rw [InK64]; omega, hn'⟩
  · rw [decide_eq_false h]
    obtain rfl : i = Ll.len l := by omega
    have hx2' := hx2 (decide_eq_false (by omega))
    have hp : pk (Ll.len l) = l.length - 1 := by unfold pk; rw [if_neg (by omega)]; omega
    rw [hp]
    exact hx2'
abbrev evaF {A : Go.Rx.Alg} : Code → Go.Rx.SS A → (Go.Rx.Ex → Go.Rx.SS A → A.R) → A.R := fun c_ s_ K_ => match s_.T.get 13, s_.T.get 14, s_.T.get 1, s_.T.get 4, s_.T.get 5, s_.H.get 0, s_.T.get 15, s_.H.get 2, s_.H.get 3 with
  | some (.ls false 0 m1), some (.i .i64 m2), some (.i .i64 x), some (.p 2 0), some (.p 3 0), some (.list t3 k3 false l), some (.i .i64 i), some (.row t4 [.i .i64 z1, .i .i64 z2]), some (.row t5 [.i .i64 ba, .i .i64 bv]) => bif (((((Nat.beq s_.N 45 && Nat.beq s_.nx 4) && Nat.beq t3 0) && decide (k3 = [.int .i64, .int .i64])) && Nat.beq t4 34) && Nat.beq t5 82) then (A.need .eql m1 (A.len l) (A.need .eql m2 (A.len l) (A.need .eql i (A.lit 0) (A.need .eql ba (A.app 11 [l] [(A.lit 0)]) (A.need .eql bv (A.app 12 [l] [(A.lit 0)]) (A.br (A.appB 32 [l] []) (fun _ => ((A.br (A.appB 33 [l] [x]) (fun _ => K_ .ret (Go.Rx.hdL c_ s_.T (Go.Rx.kills [] s_.H) 45 4 [(13, .ls false 0 (A.len l)), (14, .i .i64 (A.len l)), (1, .i .i64 x), (4, .p 2 0), (5, .p 3 0)] [(0, .list 0 [.int .i64, .int .i64] false l)] [] [(2, .row 34 [.i .i64 (A.app 4 [l] [x]), .i .i64 (A.app 5 [l] [x])]), (3, .row 82 [.i .i64 (A.app 6 [l] [x]), .i .i64 (A.app 7 [l] [x])])] [] [] (Go.Rx.addW ([] ++ [2, 3]) s_.wr))) (fun _ => K_ (.exit 0) (Go.Rx.hdL c_ s_.T (Go.Rx.kills [] s_.H) 45 4 [(13, .ls false 0 (A.len l)), (14, .i .i64 (A.len l)), (1, .i .i64 x), (4, .p 2 0), (5, .p 3 0)] [(0, .list 0 [.int .i64, .int .i64] false l)] [(15, .i .i64 (A.len l))] [(2, .row 34 [.i .i64 z1, .i .i64 z2]), (3, .row 82 [.i .i64 (A.app 8 [l] []), .i .i64 (A.app 9 [l] [])])] [] [] (Go.Rx.addW ([] ++ [2, 3]) s_.wr)))))) (fun _ => A.fail "pre"))))))) else A.fail "frame of eva"
  | _, _, _, _, _, _, _, _, _ => A.fail "eva"
theorem evaF_ok {d : Nat} (hd : 200 ≤ d) : LoopOK (fs := fsv) (ov := true) Try.prog AW d 52 [false, true, false, true, true] false evaF := by
  intro m_ hm_ fn_ c0_ hfn_ hb_ c_ ro_ hro_ hc_ s_ K_ W_ ν_ S_ h_ hs_
  obtain rfl := body_of hfn_ hb_ hc_
  unfold evaF at h_
  split at h_
  · rename_i m1_0 m2_0 x_0 t3 k3 l_0 i_0_0 t4 z1_0_0 z2_0_0 t5 ba_0_0 bv_0_0 g0 g1 g2 g3 g4 g5 g6 g7 g8
    obtain ⟨m1, rfl⟩ : ∃ q : Int, q = m1_0 := ⟨m1_0, rfl⟩
    obtain ⟨m2, rfl⟩ : ∃ q : Int, q = m2_0 := ⟨m2_0, rfl⟩
    obtain ⟨x, rfl⟩ : ∃ q : Int, q = x_0 := ⟨x_0, rfl⟩
    obtain ⟨l, rfl⟩ : ∃ q : Ll, q = l_0 := ⟨l_0, rfl⟩
    obtain ⟨i_0, rfl⟩ : ∃ q : Int, q = i_0_0 := ⟨i_0_0, rfl⟩
    obtain ⟨z1_0, rfl⟩ : ∃ q : Int, q = z1_0_0 := ⟨z1_0_0, rfl⟩
    obtain ⟨z2_0, rfl⟩ : ∃ q : Int, q = z2_0_0 := ⟨z2_0_0, rfl⟩
    obtain ⟨ba_0, rfl⟩ : ∃ q : Int, q = ba_0_0 := ⟨ba_0_0, rfl⟩
    obtain ⟨bv_0, rfl⟩ : ∃ q : Int, q = bv_0_0 := ⟨bv_0_0, rfl⟩
    obtain ⟨T_, FN_, M_, snx_, wr_⟩ := s_
    have hN : (((((Nat.beq FN_ 45 && Nat.beq snx_ 4) && Nat.beq t3 0) && decide (k3 = [.int .i64, .int .i64])) && Nat.beq t4 34) && Nat.beq t5 82) = true := by
      cases hq : ((((((Nat.beq FN_ 45 && Nat.beq snx_ 4) && Nat.beq t3 0) && decide (k3 = [.int .i64, .int .i64])) && Nat.beq t4 34) && Nat.beq t5 82) : Bool) with
      | true => rfl
      | false => (rw [hq] at h_; exact h_.elim)
    rw [hN, cond_true] at h_
    simp only [Bool.and_eq_true, beq_iff, decide_eq_true_eq] at hN
    obtain ⟨⟨⟨⟨⟨rfl, rfl⟩, rfl⟩, rfl⟩, rfl⟩, rfl⟩ := hN
    obtain ⟨q0, h_⟩ := h_
    obtain rfl : m1 = (Ll.len l) := q0
    obtain ⟨q0, h_⟩ := h_
    obtain rfl : m2 = (Ll.len l) := q0
    obtain ⟨q1, h_⟩ := h_
    have q1 : i_0 = (0 : Int) := q1
    obtain ⟨q2, h_⟩ := h_
    have q2 : ba_0 = (Ll.get l (0 : Int) 0) := q2
    obtain ⟨q3, h_⟩ := h_
    have q3 : bv_0 = (Ll.get l (0 : Int) 1) := q3
    obtain ⟨q4, h_⟩ := br_pre (fs := fsv) (ov := true) h_
    have q4 : (rightB l) = true := q4
    replace h_ : cond (decide (kAt l x < l.length)) (K_ .ret (hdL (bodyAt Try.prog 52 [false, true, false, true, true]) T_ (kills [] M_) 45 4 [(13, .ls false 0 (Ll.len l)), (14, .i .i64 (Ll.len l)), (1, .i .i64 x), (4, .p 2 0), (5, .p 3 0)] [(0, .list 0 [.int .i64, .int .i64] false l)] [] [(2, .row 34 [.i .i64 (valLo l x), .i .i64 (valHi l x)]), (3, .row 82 [.i .i64 (Ll.get l (pk (kAt l x)) 0), .i .i64 (Ll.get l (pk (kAt l x)) 1)])] [] [] (addW ([] ++ [2, 3]) wr_))) (K_ (.exit 0) (hdL (bodyAt Try.prog 52 [false, true, false, true, true]) T_ (kills [] M_) 45 4 [(13, .ls false 0 (Ll.len l)), (14, .i .i64 (Ll.len l)), (1, .i .i64 x), (4, .p 2 0), (5, .p 3 0)] [(0, .list 0 [.int .i64, .int .i64] false l)] [(15, .i .i64 (Ll.len l))] [(2, .row 34 [.i .i64 z1_0, .i .i64 z2_0]), (3, .row 82 [.i .i64 (Ll.get l (l.length - 1) 0), .i .i64 (Ll.get l (l.length - 1) 1)])] [] [] (addW ([] ++ [2, 3]) wr_))) := h_
    have hx1 : (decide (kAt l x < l.length)) = true → K_ .ret (hdL (bodyAt Try.prog 52 [false, true, false, true, true]) T_ (kills [] M_) 45 4 [(13, .ls false 0 (Ll.len l)), (14, .i .i64 (Ll.len l)), (1, .i .i64 x), (4, .p 2 0), (5, .p 3 0)] [(0, .list 0 [.int .i64, .int .i64] false l)] [] [(2, .row 34 [.i .i64 (valLo l x), .i .i64 (valHi l x)]), (3, .row 82 [.i .i64 (Ll.get l (pk (kAt l x)) 0), .i .i64 (Ll.get l (pk (kAt l x)) 1)])] [] [] (addW ([] ++ [2, 3]) wr_)) := fun e1 => by
      have h2 := h_
      rw [e1] at h2; simp only [cond_true, cond_false] at h2; exact h2
    have hx2 : (decide (kAt l x < l.length)) = false → K_ (.exit 0) (hdL (bodyAt Try.prog 52 [false, true, false, true, true]) T_ (kills [] M_) 45 4 [(13, .ls false 0 (Ll.len l)), (14, .i .i64 (Ll.len l)), (1, .i .i64 x), (4, .p 2 0), (5, .p 3 0)] [(0, .list 0 [.int .i64, .int .i64] false l)] [(15, .i .i64 (Ll.len l))] [(2, .row 34 [.i .i64 z1_0, .i .i64 z2_0]), (3, .row 82 [.i .i64 (Ll.get l (l.length - 1) 0), .i .i64 (Ll.get l (l.length - 1) 1)])] [] [] (addW ([] ++ [2, 3]) wr_)) := fun e1 => by
      have h2 := h_
      rw [e1] at h2; simp only [cond_true, cond_false] at h2; exact h2
    refine loop_ruleL (fs := fsv) (ov := true) (s := ⟨T_, 45, M_, 4, wr_⟩) (X := Int × Int × Int × Int × Int) (B := [2, 3]) (mv := []) (kt := [(13, .ls false 0 (Ll.len l)), (14, .i .i64 (Ll.len l)), (1, .i .i64 x), (4, .p 2 0), (5, .p 3 0)]) (kr := [(0, .list 0 [.int .i64, .int .i64] false l)]) (ty := []) (x := (i_0, z1_0, z2_0, ba_0, bv_0))
      (Inv := (fun x_ : Int × Int × Int × Int × Int => match x_ with | (i, z1, z2, ba, bv) => 0 ≤ i ∧ i ≤ kAt l x ∧ z1 = z1_0 ∧ z2 = z2_0 ∧ ba = Ll.get l (pk i) 0 ∧ bv = Ll.get l (pk i) 1)) (μ := (fun x_ : Int × Int × Int × Int × Int => match x_ with | (i, z1, z2, ba, bv) => (24 - i).toNat)) (ts := tsOf [15] []) (sl := (fun x_ : Int × Int × Int × Int × Int => match x_ with | (i, z1, z2, ba, bv) => [.i .i64 i])) (bl := (fun x_ : Int × Int × Int × Int × Int => match x_ with | (i, z1, z2, ba, bv) => [.row 34 [.i .i64 z1, .i .i64 z2], .row 82 [.i .i64 ba, .i .i64 bv]])) (ll := (fun x_ : Int × Int × Int × Int × Int => match x_ with | (i, z1, z2, ba, bv) => [])) (Q := fun e_ vs_ os_ hs_ => K_ e_ (hdL (bodyAt Try.prog 52 [false, true, false, true, true]) T_ (kills [] M_) 45 4 [(13, .ls false 0 (Ll.len l)), (14, .i .i64 (Ll.len l)), (1, .i .i64 x), (4, .p 2 0), (5, .p 3 0)] [(0, .list 0 [.int .i64, .int .i64] false l)] (((tsOf [15] []) e_).zip vs_) ([2, 3].zip os_) [] hs_ (addW ([] ++ [2, 3]) wr_)))
      (L := LL) (U := 30) (cs := sCall Try.prog 30 (spOf spD) noLoop 20) (call := CN Try.prog AW m_) (lp := ⟨52, false, noLoop 52⟩) (root := c0_) (p := [false, true, false, true, true])
      (show CallSOK _ _ from by
        have := sCall_ok (P := Try.prog) (d := m_ - 20) (U := 30) (lp := noLoop) (spD_ok (ov := true) (d := m_ - 20) (by omega)) (spD_aw (fs := fsv) (ov := true)) (noLoop_ok) (by decide) rfl 20
        rwa [show 20 + (m_ - 20) = m_ by omega] at this) (ctx_of (g := 52) (rg := false) (at_ := noLoop 52) (fun p rg f h => by cases h) hfn_ hb_ hro_) (by decide) hc_
      (by
        rintro ⟨i, z1, z2, ba, bv⟩ o ho
        simp only [List.mem_cons, List.not_mem_nil, or_false] at ho
        rcases ho with rfl | rfl
        · rfl
        · rfl)
      (fun x hx => by
        simp only [List.mem_cons, List.not_mem_nil, or_false] at hx
        rcases hx with rfl | rfl
        · exact ⟨_, g7, rfl⟩
        · exact ⟨_, g8, rfl⟩) (fun x hx => by cases hx) (fun x hx => by
        simp only [List.mem_cons, List.not_mem_nil, or_false] at hx
        rcases hx with rfl | rfl
        · simp
        · simp)
      (fun x hx => by
        simp only [List.mem_cons, List.not_mem_nil, or_false] at hx
        rcases hx with rfl | rfl | rfl | rfl | rfl
        · exact g0
        · exact g1
        · exact g2
        · exact g3
        · exact g4) (fun x hx => by
        simp only [List.mem_cons, List.not_mem_nil, or_false] at hx
        rcases hx with rfl
        · exact ⟨g5, by simp⟩) ?_ (fun _ _ _ _ _ h => h) ?_ ?_ ?_ hs_
    · rintro ⟨i, z1, z2, ba, bv⟩ hI
      exact eva_go x l i z1 z2 ba bv i_0 z1_0 z2_0 ba_0 bv_0 q1 q2 q3 T_ (kills [] M_) _ q4 hI (fun i' z1' z2' ba' bv' ha hb => ⟨(i', z1', z2', ba', bv'), ha, hb, rfl, rfl, rfl⟩) (fun e1 => ⟨by simp [SO.mine], hx1 e1⟩) (fun e1 => ⟨by simp [SO.mine], hx2 e1⟩)
    · show 0 ≤ i_0 ∧ i_0 ≤ kAt l x ∧ z1_0 = z1_0 ∧ z2_0 = z2_0 ∧ ba_0 = Ll.get l (pk i_0) 0 ∧ bv_0 = Ll.get l (pk i_0) 1
      have hk := kAt_spec l x
      exact ⟨by omega, by omega, rfl, rfl, by rw [q1, q2]; rfl, by rw [q1, q3]; rfl⟩
    · show (24 - i_0).toNat < LL
      exact Nat.lt_of_le_of_lt (show _ ≤ 1000 by omega) (by decide)
    · exact ⟨⟨[.i .i64 i_0], [.row 34 [.i .i64 z1_0, .i .i64 z2_0], .row 82 [.i .i64 ba_0, .i .i64 bv_0]], [], [], by simp [gets, tsOf, g0, g1, g2, g3, g4, g5, g6, g7, g8], by simp [gets, g0, g1, g2, g3, g4, g5, g6, g7, g8], rfl, rfl, by simp [listsOf] <;> rfl⟩⟩
  · exact h_.elim
abbrev lpVa {A : Go.Rx.Alg} : Nat → Go.Rx.LoopS A := Go.Rx.lpOf [(52, [false, true, false, true, true], false, evaF)]
theorem lpVa_ok {d : Nat} (hd : 200 ≤ d) : LoopsAll (fs := fsv) (ov := true) Try.prog AW d lpVa := lpOf_ok fun x hx => by
  simp only [List.mem_cons, List.not_mem_nil, or_false] at hx
  rcases hx with rfl
  · exact evaF_ok (by omega)
theorem valueAt_eq (x : Int) (l : Ll) (KK : KS (stdA fsv true)) : sFunc Try.prog 30 (sCall Try.prog 30 (spOf spD) lpVa 20) lpVa 52 [.agg [.ls false 0 (Ll.len l)], .i .i64 x] (lsMem 0 [([.int .i64, .int .i64], l)]) 1 KK =
  ((0 : Int) ≤ (0 : Int) ∧ ((0 : Int) < (Ll.len l) ∧ ((0 : Int) < (Ll.len l) ∧ ((Ll.len l) = (Ll.len l) ∧ ((Ll.len l) = (Ll.len l) ∧ ((0 : Int) = (0 : Int) ∧ ((Ll.get l (0 : Int) 0) = (Ll.get l (0 : Int) 0) ∧ ((Ll.get l (0 : Int) 1) = (Ll.get l (0 : Int) 1) ∧ (cond (rightB l)
 (cond (decide (kAt l x < l.length))
 (KK (.agg [(.i .i64 (valLo l x)), (.i .i64 (valHi l x))]) (lsMem 0 [([.int .i64, .int .i64], l)]) 1 [])
 (KK (.agg [(.i .i64 (Ll.get l (l.length - 1) 1)), (.i .i64 (Ll.get l (l.length - 1) 1))]) (lsMem 0 [([.int .i64, .int .i64], l)]) 1 []))
 False))))))))) := by kernel_rfl
theorem valueAt_pure {m : Nat} (hm : 300 ≤ m) {H : Hp} {nx : Nat} (x : Int) {v_l : LV} {l : Ll} (hl_l : IsL H nx [.int .i64, .int .i64] l v_l) (p1 : (rightB l) = true) : Pure Try.prog AW m 52 [.agg [v_l], .i .i64 x] H nx (.agg [.i .i64 (valLo l x), .i .i64 (valHi l x)]) := by
  obtain ⟨ν, n1, n2, n3, n4⟩ := ls_in (fs := fsv) (ov := true) (l := [([.int .i64, .int .i64], l)]) (lvs := [v_l]) 0 (fun i x lv e1 e2 => by
    cases i with
    | zero => simp at e1 e2; subst e1 e2; exact hl_l
    | succ i =>
      simp at e1) rfl
  refine pure_of (n := 20) (d := m - 21) (U := 30) (fs := fsv) (ov := true) (spD_ok (by omega)) spD_aw (lpVa_ok (by omega)) (by decide) (by decide) (by omega) (args := [.agg [.ls false 0 (Ll.len l)], .i .i64 x]) (M := lsMem 0 [([.int .i64, .int .i64], l)]) (snx := 1) ?_ (VSL.cons ⟨_, rfl, (VSL.cons (n4 0 _ _ rfl rfl) rfl)⟩ (VSL.cons rfl rfl)) (hs_in n2 n3)
  rw [valueAt_eq]
  have hl : Ll.len l = (l.length : Int) := rfl
  have hR := right_of p1
  have hlen := hR.len
  have hk := kAt_spec l x
  rw [p1]
  refine ⟨by omega, by omega, by omega, rfl, rfl, rfl, rfl, rfl, ?_⟩
  by_cases h : kAt l x < l.length
  · rw [decide_eq_true h]
    exact end_ii rfl rfl
  · rw [decide_eq_false h]
    obtain ⟨v0, v1⟩ := val_last (l := l) (x := x) (by omega) (by omega)
    exact end_ii v0.symm v1.symm
abbrev valueAtS {A : Go.Rx.Alg} : List (Go.Rx.SV A) → Go.Rx.SH A → Nat → Go.Rx.KS A → A.R := fun args_ M_ snx_ K_ => match args_ with
  | [.agg [x_l], .i .i64 x] => (match Go.Rx.lsArg M_ [.int .i64, .int .i64] x_l with | some (l, n_l) => (A.need .eql n_l (A.len l) (A.br (A.appB 32 [l] []) (fun _ => (K_ (.agg [.i .i64 (A.app 4 [l] [x]), .i .i64 (A.app 5 [l] [x])]) M_ snx_ [])) (fun _ => A.fail "pre"))) | none => A.fail "valueAt")
  | _ => A.fail "valueAt"
theorem valueAtS_ok {ov : Bool} {d : Nat} (hd : 300 ≤ d) : SpecOK (fs := fsv) (ov := ov) Try.prog AW d 52 valueAtS := by
  intro m_ hm_ args_ M_ snx_ K_ h_ ν_ largs_ H_ nx_ ha_ hM_
  unfold valueAtS at h_
  split at h_
  · rename_i x_l x
    obtain ⟨y1, r1, rfl, ⟨l1, rfl, ⟨v_l, r2, rfl, hx_l, rfl⟩⟩, ⟨y3, r3, rfl, rfl, rfl⟩⟩ := ha_
    split at h_
    · rename_i l n_l q_l
      obtain ⟨e_l, h_⟩ := h_
      obtain ⟨p1, h_⟩ := br_pre (fs := fsv) (ov := ov) h_
      have p1 : (rightB l) = true := p1
      exact pure_got (valueAt_pure (by omega) x (lsArg_ok hM_ hx_l q_l e_l) p1) hM_ (v := .agg [.i .i64 _, .i .i64 _]) ⟨_, rfl, (VSL.cons rfl (VSL.cons rfl rfl))⟩ h_
    · exact h_.elim
  · exact h_.elim
abbrev spV {A : Go.Rx.Alg} : Go.Rx.SpL A := [(AW, Go.Rx.awakeS), (51, rightS), (52, valueAtS)]
theorem spV_ok {ov : Bool} {d : Nat} (hd : 300 ≤ d) : SpOK (fs := fsv) (ov := ov) Try.prog AW d spV := SpOK.cons awake_ok (SpOK.cons (rightS_ok (by omega)) (SpOK.cons (valueAtS_ok (by omega)) SpOK.nil))
theorem spV_aw {fs : Fs} {ov : Bool} : (spOf (A := stdA fs ov) spV AW).isSome = true := rfl
abbrev spRV {A : Go.Rx.Alg} : Go.Rx.SpL A := [(AW, Go.Rx.awakeS)]
theorem spRV_ok {ov : Bool} {d : Nat} (hd : 0 ≤ d) : SpOK (fs := fsv) (ov := ov) Try.prog AW d spRV := SpOK.cons awake_ok SpOK.nil
theorem spRV_aw {fs : Fs} {ov : Bool} : (spOf (A := stdA fs ov) spRV AW).isSome = true := rfl
theorem at_eq (x : Int) (l : Ll) (KK : KS (stdA fsv true)) : sFunc Try.prog 30 (sCall Try.prog 30 (spOf spV) noLoop 20) noLoop 31 [.agg [.ls false 0 (Ll.len l)], .i .i64 x] (lsMem 0 [([.int .i64, .int .i64], l)]) 1 KK =
  ((Ll.len l) = (Ll.len l) ∧ (cond (!(rightB l))
 (KK (.agg [(.i .i64 (0 : Int)), (.i .i64 (0 : Int))]) (lsMem 0 [([.int .i64, .int .i64], l)]) 1 [])
 ((Ll.len l) = (Ll.len l) ∧ (cond (rightB l)
 (KK (.agg [(.i .i64 (valLo l x)), (.i .i64 (valHi l x))]) (lsMem 0 [([.int .i64, .int .i64], l)]) 1 [])
 False)))) := by kernel_rfl
theorem at_pure {m : Nat} (hm : 400 ≤ m) {H : Hp} {nx : Nat} (x : Int) {v_l : LV} {l : Ll} (hl_l : IsL H nx [.int .i64, .int .i64] l v_l) : Pure Try.prog AW m 31 [.agg [v_l], .i .i64 x] H nx (.agg [.i .i64 (if rightB l = true then valLo l x else 0), .i .i64 (if rightB l = true then valHi l x else 0)]) := by
  obtain ⟨ν, n1, n2, n3, n4⟩ := ls_in (fs := fsv) (ov := true) (l := [([.int .i64, .int .i64], l)]) (lvs := [v_l]) 0 (fun i x lv e1 e2 => by
    cases i with
    | zero => simp at e1 e2; subst e1 e2; exact hl_l
    | succ i =>
      simp at e1) rfl
  refine pure_of (n := 20) (d := m - 21) (U := 30) (fs := fsv) (ov := true) (spV_ok (by omega)) spV_aw noLoop_ok (by decide) (by decide) (by omega) (args := [.agg [.ls false 0 (Ll.len l)], .i .i64 x]) (M := lsMem 0 [([.int .i64, .int .i64], l)]) (snx := 1) ?_ (VSL.cons ⟨_, rfl, (VSL.cons (n4 0 _ _ rfl rfl) rfl)⟩ (VSL.cons rfl rfl)) (hs_in n2 n3)
  rw [at_eq]
  cases hb : rightB l
  · exact ⟨by trivial, end_ii (by simp) (by simp)⟩
  · simp only [cond_true, Bool.not_true, cond_false]
    repeat' (first | exact end_ii (by simp) (by simp) | apply And.intro)
    all_goals first | trivial | omega
abbrev atS {A : Go.Rx.Alg} : List (Go.Rx.SV A) → Go.Rx.SH A → Nat → Go.Rx.KS A → A.R := fun args_ M_ snx_ K_ => match args_ with
  | [.agg [x_l], .i .i64 x] => (match Go.Rx.lsArg M_ [.int .i64, .int .i64] x_l with | some (l, n_l) => (A.need .eql n_l (A.len l) (K_ (.agg [.i .i64 (A.app 13 [l] [x]), .i .i64 (A.app 14 [l] [x])]) M_ snx_ [])) | none => A.fail "at")
  | _ => A.fail "at"
theorem atS_ok {ov : Bool} {d : Nat} (hd : 400 ≤ d) : SpecOK (fs := fsv) (ov := ov) Try.prog AW d 31 atS := by
  intro m_ hm_ args_ M_ snx_ K_ h_ ν_ largs_ H_ nx_ ha_ hM_
  unfold atS at h_
  split at h_
  · rename_i x_l x
    obtain ⟨y1, r1, rfl, ⟨l1, rfl, ⟨v_l, r2, rfl, hx_l, rfl⟩⟩, ⟨y3, r3, rfl, rfl, rfl⟩⟩ := ha_
    split at h_
    · rename_i l n_l q_l
      obtain ⟨e_l, h_⟩ := h_
      exact pure_got (at_pure (by omega) x (lsArg_ok hM_ hx_l q_l e_l)) hM_ (v := .agg [.i .i64 _, .i .i64 _]) ⟨_, rfl, (VSL.cons rfl (VSL.cons rfl rfl))⟩ h_
    · exact h_.elim
  · exact h_.elim
end Go.Proofs.Ytfjilbjofaommaa
