/-
  Layer 5: CasingOnce's call.
-/
import Derived.Test.YtlbimnefemcaaaaTa
set_option linter.unusedSimpArgs false
set_option linter.unusedVariables false
set_option maxRecDepth 100000
namespace Go.Proofs.Ytlbimnefemcaaaa
open Go Go.Rx

theorem cl7_eq (now i : Int) (b : Bool) (l : Ll) (T : Al (SV (stdA fst false))) (M : Al (SO (stdA fst false))) (KK : Ex → List (SV (stdA fst false)) → List (SO (stdA fst false)) → List Ll → Prop) : sCode Try.prog (sCall Try.prog 30 (spOf sp0) noLoop 20) (noLoop 4) 30 (false :: [false, true, false, true, true, true, true, true, true, true, true]) (bodyAt Try.prog 4 [false, true, false, true, true, true, true, true, true, true, true]) (hdL (bodyAt Try.prog 4 [false, true, false, true, true, true, true, true, true, true, true]) T M 115 7 [(0, .ls false 0 (Ll.len l)), (3, .i .i64 now)] [(0, .list 0 [.int .i64, .bool, .int .i64] false l)] [(15, .b b), (16, .i .i64 i)] [] [] [] []) (outL 7 (tsOf [15, 16] []) [] [] KK) =
  (cond (decide (i < (Ll.len l)))
 (cond b
 ((0 : Int) ≤ i ∧ (i < (Ll.len l) ∧ (i < (Ll.len l) ∧ (cond (Ll.getB l i 1)
 (KK .normal [(.b true), (.i .i64 (IntKind.wrap .i64 (i + (1 : Int))))] [] [])
 ((0 : Int) ≤ i ∧ (i < (Ll.len l) ∧ (i < (Ll.len l) ∧ (KK .normal [(.b (decide ((Ll.get l i 2) ≠ now))), (.i .i64 (IntKind.wrap .i64 (i + (1 : Int))))] [] []))))))))
 (KK .normal [(.b false), (.i .i64 (IntKind.wrap .i64 (i + (1 : Int))))] [] []))
 (KK (.exit 0) [(.b b), (.i .i64 i)] [] [])) := by kernel_rfl
theorem cl7_go (now : Int) (l : Ll) (i : Int) (b : Bool) (T : Al (SV (stdA fst false))) (M : Al (SO (stdA fst false))) (KK : Ex → List (SV (stdA fst false)) → List (SO (stdA fst false)) → List Ll → Prop) (p1 : (Ll.len l) ≤ (20 : Int)) (hI : 0 ≤ i ∧ i ≤ Ll.len l ∧ (b = true ↔ clTo l now i)) (hn : ∀ (i' : Int) (b' : Bool), 0 ≤ i' ∧ i' ≤ Ll.len l ∧ (b' = true ↔ clTo l now i') → (24 - i').toNat < (24 - i).toNat → KK .normal [.b b', .i .i64 i'] [] []) (hx1 : KK (.exit 0) [.b (clB l now), .i .i64 (Ll.len l)] [] []) :
    sCode Try.prog (sCall Try.prog 30 (spOf sp0) noLoop 20) (noLoop 4) 30 (false :: [false, true, false, true, true, true, true, true, true, true, true]) (bodyAt Try.prog 4 [false, true, false, true, true, true, true, true, true, true, true]) (hdL (bodyAt Try.prog 4 [false, true, false, true, true, true, true, true, true, true, true]) T M 115 7 [(0, .ls false 0 (Ll.len l)), (3, .i .i64 now)] [(0, .list 0 [.int .i64, .bool, .int .i64] false l)] [(15, .b b), (16, .i .i64 i)] [] [] [] []) (outL 7 (tsOf [15, 16] []) [] [] KK) := by
  refine Eq.mpr (cl7_eq now i b l T M KK) ?_
  have hl : Ll.len l = (l.length : Int) := rfl
  obtain ⟨i0, i1, i2⟩ := hI
  by_cases h : i < Ll.len l
  · rw [decide_eq_true h, wrap_id (show -9223372036854775808 ≤ i + 1 by omega) (by omega)]
    have hg : clTo l now (i + 1) ↔ clTo l now i ∧ (Ll.getB l i 1 || decide (Ll.get l i 2 ≠ now)) = true := by
      unfold clTo
      constructor
      · exact fun hc => ⟨fun j a b => hc j a (by omega), hc i i0 (by omega)⟩
      · rintro ⟨h1, h2⟩ j a b'
        by_cases e : j = i
        · subst e; exact h2
        · exact h1 j a (by omega)
    have next : ∀ b', (b' = true ↔ clTo l now (i + 1)) → KK .normal [.b b', .i .i64 (i + 1)] [] [] := fun b' hb => hn (i + 1) b' ⟨by omega, by omega, hb⟩ (by omega)
    cases b with
    | false => exact next false (by rw [hg]; exact ⟨fun h => (by cases h), fun h => absurd (i2.2 h.1) (by simp)⟩)
    | true =>
      have i3 := i2.1 rfl
      cases hB : Ll.getB l i 1 with
      | true =>
        refine ⟨i0, h, h, ?_⟩
        first | exact next true (by rw [hg, hB]; exact ⟨fun _ => ⟨i3, rfl⟩, fun _ => rfl⟩) | (refine ⟨i0, h, h, ?_⟩; exact next true (by rw [hg, hB]; exact ⟨fun _ => ⟨i3, rfl⟩, fun _ => rfl⟩))
      | false =>
        rw [hB] at hg
        refine ⟨i0, h, h, i0, h, h, ?_⟩
        exact next _ (by rw [hg]; exact ⟨fun h => ⟨i3, h⟩, fun h => h.2⟩)
  · rw [decide_eq_false h]
    obtain rfl : i = Ll.len l := by omega
    have e : b = clB l now := by
      have := clB_iff (l := l) (now := now)
      rw [← hl, ← i2] at this
      cases b <;> cases hb : clB l now <;> simp [hb] at this ⊢
    subst e
    exact hx1
abbrev cl7F {A : Go.Rx.Alg} : Code → Go.Rx.SS A → (Go.Rx.Ex → Go.Rx.SS A → A.R) → A.R := fun c_ s_ K_ => match s_.T.get 0, s_.T.get 3, s_.H.get 0, s_.T.get 15, s_.T.get 16 with
  | some (.ls false 0 m1), some (.i .i64 now), some (.list t2 k2 false l), some (.b b), some (.i .i64 i) => bif (((Nat.beq s_.N 115 && Nat.beq s_.nx 7) && Nat.beq t2 0) && decide (k2 = [.int .i64, .bool, .int .i64])) then (A.need .eql m1 (A.len l) (A.need .eql i (A.lit 0) (A.br b (fun _ => (A.need .leq (A.len l) (A.lit 20) (K_ (.exit 0) (Go.Rx.hdL c_ s_.T (Go.Rx.kills [] s_.H) 115 7 [(0, .ls false 0 (A.len l)), (3, .i .i64 now)] [(0, .list 0 [.int .i64, .bool, .int .i64] false l)] [(15, .b (A.appB 36 [l] [now])), (16, .i .i64 (A.len l))] [] [] [] (Go.Rx.addW ([] ++ []) s_.wr))))) (fun _ => A.fail "pre")))) else A.fail "frame of cl7"
  | _, _, _, _, _ => A.fail "cl7"
theorem cl7F_ok {d : Nat} (hd : 100 ≤ d) : LoopOK (fs := fst) (ov := false) Try.prog AW d 4 [false, true, false, true, true, true, true, true, true, true, true] cl7F := by
  intro m_ hm_ fn_ c0_ hfn_ hb_ c_ ro_ hc_ s_ K_ W_ ν_ S_ h_ hs_
  obtain rfl := body_of hfn_ hb_ hc_
  simp only [cl7F] at h_
  split at h_
  · rename_i m1_0 now_0 t2 k2 l_0 b_0 i_0 g0 g1 g2 g3 g4
    obtain ⟨m1, rfl⟩ : ∃ q : Int, q = m1_0 := ⟨m1_0, rfl⟩
    obtain ⟨now, rfl⟩ : ∃ q : Int, q = now_0 := ⟨now_0, rfl⟩
    obtain ⟨l, rfl⟩ : ∃ q : Ll, q = l_0 := ⟨l_0, rfl⟩
    obtain ⟨b, rfl⟩ : ∃ q : Bool, q = b_0 := ⟨b_0, rfl⟩
    obtain ⟨i, rfl⟩ : ∃ q : Int, q = i_0 := ⟨i_0, rfl⟩
    obtain ⟨T_, FN_, M_, snx_, wr_⟩ := s_
    have hN : (((Nat.beq FN_ 115 && Nat.beq snx_ 7) && Nat.beq t2 0) && decide (k2 = [.int .i64, .bool, .int .i64])) = true := by
      cases hq : ((((Nat.beq FN_ 115 && Nat.beq snx_ 7) && Nat.beq t2 0) && decide (k2 = [.int .i64, .bool, .int .i64])) : Bool) with
      | true => rfl
      | false => (rw [hq] at h_; exact h_.elim)
    rw [hN, cond_true] at h_
    simp only [Bool.and_eq_true, beq_iff, decide_eq_true_eq] at hN
    obtain ⟨⟨⟨rfl, rfl⟩, rfl⟩, rfl⟩ := hN
    obtain ⟨q0, h_⟩ := h_
    obtain rfl : m1 = (Ll.len l) := q0
    obtain ⟨q1, h_⟩ := h_
    have q1 : i = (0 : Int) := q1
    obtain ⟨q2, h_⟩ := br_pre (fs := fst) (ov := false) h_
    have q2 : b = true := q2
    obtain ⟨q3, h_⟩ := h_
    have q3 : (Ll.len l) ≤ (20 : Int) := q3
    replace h_ : K_ (.exit 0) (hdL (bodyAt Try.prog 4 [false, true, false, true, true, true, true, true, true, true, true]) T_ (kills [] M_) 115 7 [(0, .ls false 0 (Ll.len l)), (3, .i .i64 now)] [(0, .list 0 [.int .i64, .bool, .int .i64] false l)] [(15, .b (clB l now)), (16, .i .i64 (Ll.len l))] [] [] [] (addW ([] ++ []) wr_)) := h_
    have hx1 : K_ (.exit 0) (hdL (bodyAt Try.prog 4 [false, true, false, true, true, true, true, true, true, true, true]) T_ (kills [] M_) 115 7 [(0, .ls false 0 (Ll.len l)), (3, .i .i64 now)] [(0, .list 0 [.int .i64, .bool, .int .i64] false l)] [(15, .b (clB l now)), (16, .i .i64 (Ll.len l))] [] [] [] (addW ([] ++ []) wr_)) := by
      have h2 := h_
      exact h2
    refine loop_ruleL (fs := fst) (ov := false) (s := ⟨T_, 115, M_, 7, wr_⟩) (X := Int × Bool) (B := []) (mv := []) (kt := [(0, .ls false 0 (Ll.len l)), (3, .i .i64 now)]) (kr := [(0, .list 0 [.int .i64, .bool, .int .i64] false l)]) (ty := []) (x := (i, b))
      (Inv := (fun x : Int × Bool => match x with | (i, b) => 0 ≤ i ∧ i ≤ Ll.len l ∧ (b = true ↔ clTo l now i))) (μ := (fun x : Int × Bool => match x with | (i, b) => (24 - i).toNat)) (ts := tsOf [15, 16] []) (sl := (fun x : Int × Bool => match x with | (i, b) => [.b b, .i .i64 i])) (bl := (fun x : Int × Bool => match x with | (i, b) => [])) (ll := (fun x : Int × Bool => match x with | (i, b) => [])) (Q := fun e_ vs_ os_ hs_ => K_ e_ (hdL (bodyAt Try.prog 4 [false, true, false, true, true, true, true, true, true, true, true]) T_ (kills [] M_) 115 7 [(0, .ls false 0 (Ll.len l)), (3, .i .i64 now)] [(0, .list 0 [.int .i64, .bool, .int .i64] false l)] (((tsOf [15, 16] []) e_).zip vs_) ([].zip os_) [] hs_ (addW ([] ++ []) wr_)))
      (L := LL) (U := 30) (cs := sCall Try.prog 30 (spOf sp0) noLoop 20) (call := CN Try.prog AW m_) (lp := noLoop 4) (root := c0_) (p := [false, true, false, true, true, true, true, true, true, true, true])
      (show CallSOK _ _ from by
        have := sCall_ok (P := Try.prog) (d := m_ - 20) (U := 30) (lp := noLoop) (sp0_ok (fs := fst) (ov := false) (d := m_ - 20)) (sp0_aw (fs := fst) (ov := false)) (noLoop_ok) (by decide) 20
        rwa [show 20 + (m_ - 20) = m_ by omega] at this) (fun p f h => by cases h) (by decide) hc_
      (fun x o ho => by cases ho)
      (fun x hx => by cases hx) (fun x hx => by cases hx) (fun x hx => by cases hx)
      (fun x hx => by
        simp only [List.mem_cons, List.not_mem_nil, or_false] at hx
        rcases hx with rfl | rfl
        · exact g0
        · exact g1) (fun x hx => by
        simp only [List.mem_cons, List.not_mem_nil, or_false] at hx
        rcases hx with rfl
        · exact ⟨g2, by simp⟩) ?_ (fun _ _ _ _ _ h => h) ?_ ?_ ?_ hs_
    · rintro ⟨i, b⟩ hI
      exact cl7_go now l i b T_ (kills [] M_) _ q3 hI (fun i' b' ha hb => ⟨(i', b'), ha, hb, rfl, rfl, rfl⟩) (⟨by simp [SO.mine], hx1⟩)
    · show 0 ≤ i ∧ i ≤ Ll.len l ∧ (b = true ↔ clTo l now i)
      exact ⟨by omega, by have : (0 : Int) ≤ Ll.len l := Int.natCast_nonneg _; omega, by rw [q1, q2]; exact ⟨fun _ j a b => by omega, fun _ => rfl⟩⟩
    · show (24 - i).toNat < LL
      exact Nat.lt_of_le_of_lt (show _ ≤ 1000 by omega) (by decide)
    · exact ⟨⟨[.b b, .i .i64 i], [], [], [], by simp [gets, tsOf, g0, g1, g2, g3, g4], by simp [gets, g0, g1, g2, g3, g4], rfl, rfl, by simp [listsOf] <;> rfl⟩⟩
  · exact h_.elim
theorem cl9_eq (now i : Int) (b : Bool) (l : Ll) (T : Al (SV (stdA fst false))) (M : Al (SO (stdA fst false))) (KK : Ex → List (SV (stdA fst false)) → List (SO (stdA fst false)) → List Ll → Prop) : sCode Try.prog (sCall Try.prog 30 (spOf sp0) noLoop 20) (noLoop 4) 30 (false :: [false, true, false, true, true, true, true, true, true, true, true]) (bodyAt Try.prog 4 [false, true, false, true, true, true, true, true, true, true, true]) (hdL (bodyAt Try.prog 4 [false, true, false, true, true, true, true, true, true, true, true]) T M 115 9 [(0, .ls false 0 (Ll.len l)), (3, .i .i64 now)] [(0, .list 0 [.int .i64, .bool, .int .i64] false l)] [(15, .b b), (16, .i .i64 i)] [] [] [] []) (outL 9 (tsOf [15, 16] []) [] [] KK) =
  (cond (decide (i < (Ll.len l)))
 (cond b
 ((0 : Int) ≤ i ∧ (i < (Ll.len l) ∧ (i < (Ll.len l) ∧ (cond (Ll.getB l i 1)
 (KK .normal [(.b true), (.i .i64 (IntKind.wrap .i64 (i + (1 : Int))))] [] [])
 ((0 : Int) ≤ i ∧ (i < (Ll.len l) ∧ (i < (Ll.len l) ∧ (KK .normal [(.b (decide ((Ll.get l i 2) ≠ now))), (.i .i64 (IntKind.wrap .i64 (i + (1 : Int))))] [] []))))))))
 (KK .normal [(.b false), (.i .i64 (IntKind.wrap .i64 (i + (1 : Int))))] [] []))
 (KK (.exit 0) [(.b b), (.i .i64 i)] [] [])) := by kernel_rfl
theorem cl9_go (now : Int) (l : Ll) (i : Int) (b : Bool) (T : Al (SV (stdA fst false))) (M : Al (SO (stdA fst false))) (KK : Ex → List (SV (stdA fst false)) → List (SO (stdA fst false)) → List Ll → Prop) (p1 : (Ll.len l) ≤ (20 : Int)) (hI : 0 ≤ i ∧ i ≤ Ll.len l ∧ (b = true ↔ clTo l now i)) (hn : ∀ (i' : Int) (b' : Bool), 0 ≤ i' ∧ i' ≤ Ll.len l ∧ (b' = true ↔ clTo l now i') → (24 - i').toNat < (24 - i).toNat → KK .normal [.b b', .i .i64 i'] [] []) (hx1 : KK (.exit 0) [.b (clB l now), .i .i64 (Ll.len l)] [] []) :
    sCode Try.prog (sCall Try.prog 30 (spOf sp0) noLoop 20) (noLoop 4) 30 (false :: [false, true, false, true, true, true, true, true, true, true, true]) (bodyAt Try.prog 4 [false, true, false, true, true, true, true, true, true, true, true]) (hdL (bodyAt Try.prog 4 [false, true, false, true, true, true, true, true, true, true, true]) T M 115 9 [(0, .ls false 0 (Ll.len l)), (3, .i .i64 now)] [(0, .list 0 [.int .i64, .bool, .int .i64] false l)] [(15, .b b), (16, .i .i64 i)] [] [] [] []) (outL 9 (tsOf [15, 16] []) [] [] KK) := by
  refine Eq.mpr (cl9_eq now i b l T M KK) ?_
  have hl : Ll.len l = (l.length : Int) := rfl
  obtain ⟨i0, i1, i2⟩ := hI
  by_cases h : i < Ll.len l
  · rw [decide_eq_true h, wrap_id (show -9223372036854775808 ≤ i + 1 by omega) (by omega)]
    have hg : clTo l now (i + 1) ↔ clTo l now i ∧ (Ll.getB l i 1 || decide (Ll.get l i 2 ≠ now)) = true := by
      unfold clTo
      constructor
      · exact fun hc => ⟨fun j a b => hc j a (by omega), hc i i0 (by omega)⟩
      · rintro ⟨h1, h2⟩ j a b'
        by_cases e : j = i
        · subst e; exact h2
        · exact h1 j a (by omega)
    have next : ∀ b', (b' = true ↔ clTo l now (i + 1)) → KK .normal [.b b', .i .i64 (i + 1)] [] [] := fun b' hb => hn (i + 1) b' ⟨by omega, by omega, hb⟩ (by omega)
    cases b with
    | false => exact next false (by rw [hg]; exact ⟨fun h => (by cases h), fun h => absurd (i2.2 h.1) (by simp)⟩)
    | true =>
      have i3 := i2.1 rfl
      cases hB : Ll.getB l i 1 with
      | true =>
        refine ⟨i0, h, h, ?_⟩
        first | exact next true (by rw [hg, hB]; exact ⟨fun _ => ⟨i3, rfl⟩, fun _ => rfl⟩) | (refine ⟨i0, h, h, ?_⟩; exact next true (by rw [hg, hB]; exact ⟨fun _ => ⟨i3, rfl⟩, fun _ => rfl⟩))
      | false =>
        rw [hB] at hg
        refine ⟨i0, h, h, i0, h, h, ?_⟩
        exact next _ (by rw [hg]; exact ⟨fun h => ⟨i3, h⟩, fun h => h.2⟩)
  · rw [decide_eq_false h]
    obtain rfl : i = Ll.len l := by omega
    have e : b = clB l now := by
      have := clB_iff (l := l) (now := now)
      rw [← hl, ← i2] at this
      cases b <;> cases hb : clB l now <;> simp [hb] at this ⊢
    subst e
    exact hx1
abbrev cl9F {A : Go.Rx.Alg} : Code → Go.Rx.SS A → (Go.Rx.Ex → Go.Rx.SS A → A.R) → A.R := fun c_ s_ K_ => match s_.T.get 0, s_.T.get 3, s_.H.get 0, s_.T.get 15, s_.T.get 16 with
  | some (.ls false 0 m1), some (.i .i64 now), some (.list t2 k2 false l), some (.b b), some (.i .i64 i) => bif (((Nat.beq s_.N 115 && Nat.beq s_.nx 9) && Nat.beq t2 0) && decide (k2 = [.int .i64, .bool, .int .i64])) then (A.need .eql m1 (A.len l) (A.need .eql i (A.lit 0) (A.br b (fun _ => (A.need .leq (A.len l) (A.lit 20) (K_ (.exit 0) (Go.Rx.hdL c_ s_.T (Go.Rx.kills [] s_.H) 115 9 [(0, .ls false 0 (A.len l)), (3, .i .i64 now)] [(0, .list 0 [.int .i64, .bool, .int .i64] false l)] [(15, .b (A.appB 36 [l] [now])), (16, .i .i64 (A.len l))] [] [] [] (Go.Rx.addW ([] ++ []) s_.wr))))) (fun _ => A.fail "pre")))) else A.fail "frame of cl9"
  | _, _, _, _, _ => A.fail "cl9"
theorem cl9F_ok {d : Nat} (hd : 100 ≤ d) : LoopOK (fs := fst) (ov := false) Try.prog AW d 4 [false, true, false, true, true, true, true, true, true, true, true] cl9F := by
  intro m_ hm_ fn_ c0_ hfn_ hb_ c_ ro_ hc_ s_ K_ W_ ν_ S_ h_ hs_
  obtain rfl := body_of hfn_ hb_ hc_
  simp only [cl9F] at h_
  split at h_
  · rename_i m1_0 now_0 t2 k2 l_0 b_0 i_0 g0 g1 g2 g3 g4
    obtain ⟨m1, rfl⟩ : ∃ q : Int, q = m1_0 := ⟨m1_0, rfl⟩
    obtain ⟨now, rfl⟩ : ∃ q : Int, q = now_0 := ⟨now_0, rfl⟩
    obtain ⟨l, rfl⟩ : ∃ q : Ll, q = l_0 := ⟨l_0, rfl⟩
    obtain ⟨b, rfl⟩ : ∃ q : Bool, q = b_0 := ⟨b_0, rfl⟩
    obtain ⟨i, rfl⟩ : ∃ q : Int, q = i_0 := ⟨i_0, rfl⟩
    obtain ⟨T_, FN_, M_, snx_, wr_⟩ := s_
    have hN : (((Nat.beq FN_ 115 && Nat.beq snx_ 9) && Nat.beq t2 0) && decide (k2 = [.int .i64, .bool, .int .i64])) = true := by
      cases hq : ((((Nat.beq FN_ 115 && Nat.beq snx_ 9) && Nat.beq t2 0) && decide (k2 = [.int .i64, .bool, .int .i64])) : Bool) with
      | true => rfl
      | false => (rw [hq] at h_; exact h_.elim)
    rw [hN, cond_true] at h_
    simp only [Bool.and_eq_true, beq_iff, decide_eq_true_eq] at hN
    obtain ⟨⟨⟨rfl, rfl⟩, rfl⟩, rfl⟩ := hN
    obtain ⟨q0, h_⟩ := h_
    obtain rfl : m1 = (Ll.len l) := q0
    obtain ⟨q1, h_⟩ := h_
    have q1 : i = (0 : Int) := q1
    obtain ⟨q2, h_⟩ := br_pre (fs := fst) (ov := false) h_
    have q2 : b = true := q2
    obtain ⟨q3, h_⟩ := h_
    have q3 : (Ll.len l) ≤ (20 : Int) := q3
    replace h_ : K_ (.exit 0) (hdL (bodyAt Try.prog 4 [false, true, false, true, true, true, true, true, true, true, true]) T_ (kills [] M_) 115 9 [(0, .ls false 0 (Ll.len l)), (3, .i .i64 now)] [(0, .list 0 [.int .i64, .bool, .int .i64] false l)] [(15, .b (clB l now)), (16, .i .i64 (Ll.len l))] [] [] [] (addW ([] ++ []) wr_)) := h_
    have hx1 : K_ (.exit 0) (hdL (bodyAt Try.prog 4 [false, true, false, true, true, true, true, true, true, true, true]) T_ (kills [] M_) 115 9 [(0, .ls false 0 (Ll.len l)), (3, .i .i64 now)] [(0, .list 0 [.int .i64, .bool, .int .i64] false l)] [(15, .b (clB l now)), (16, .i .i64 (Ll.len l))] [] [] [] (addW ([] ++ []) wr_)) := by
      have h2 := h_
      exact h2
    refine loop_ruleL (fs := fst) (ov := false) (s := ⟨T_, 115, M_, 9, wr_⟩) (X := Int × Bool) (B := []) (mv := []) (kt := [(0, .ls false 0 (Ll.len l)), (3, .i .i64 now)]) (kr := [(0, .list 0 [.int .i64, .bool, .int .i64] false l)]) (ty := []) (x := (i, b))
      (Inv := (fun x : Int × Bool => match x with | (i, b) => 0 ≤ i ∧ i ≤ Ll.len l ∧ (b = true ↔ clTo l now i))) (μ := (fun x : Int × Bool => match x with | (i, b) => (24 - i).toNat)) (ts := tsOf [15, 16] []) (sl := (fun x : Int × Bool => match x with | (i, b) => [.b b, .i .i64 i])) (bl := (fun x : Int × Bool => match x with | (i, b) => [])) (ll := (fun x : Int × Bool => match x with | (i, b) => [])) (Q := fun e_ vs_ os_ hs_ => K_ e_ (hdL (bodyAt Try.prog 4 [false, true, false, true, true, true, true, true, true, true, true]) T_ (kills [] M_) 115 9 [(0, .ls false 0 (Ll.len l)), (3, .i .i64 now)] [(0, .list 0 [.int .i64, .bool, .int .i64] false l)] (((tsOf [15, 16] []) e_).zip vs_) ([].zip os_) [] hs_ (addW ([] ++ []) wr_)))
      (L := LL) (U := 30) (cs := sCall Try.prog 30 (spOf sp0) noLoop 20) (call := CN Try.prog AW m_) (lp := noLoop 4) (root := c0_) (p := [false, true, false, true, true, true, true, true, true, true, true])
      (show CallSOK _ _ from by
        have := sCall_ok (P := Try.prog) (d := m_ - 20) (U := 30) (lp := noLoop) (sp0_ok (fs := fst) (ov := false) (d := m_ - 20)) (sp0_aw (fs := fst) (ov := false)) (noLoop_ok) (by decide) 20
        rwa [show 20 + (m_ - 20) = m_ by omega] at this) (fun p f h => by cases h) (by decide) hc_
      (fun x o ho => by cases ho)
      (fun x hx => by cases hx) (fun x hx => by cases hx) (fun x hx => by cases hx)
      (fun x hx => by
        simp only [List.mem_cons, List.not_mem_nil, or_false] at hx
        rcases hx with rfl | rfl
        · exact g0
        · exact g1) (fun x hx => by
        simp only [List.mem_cons, List.not_mem_nil, or_false] at hx
        rcases hx with rfl
        · exact ⟨g2, by simp⟩) ?_ (fun _ _ _ _ _ h => h) ?_ ?_ ?_ hs_
    · rintro ⟨i, b⟩ hI
      exact cl9_go now l i b T_ (kills [] M_) _ q3 hI (fun i' b' ha hb => ⟨(i', b'), ha, hb, rfl, rfl, rfl⟩) (⟨by simp [SO.mine], hx1⟩)
    · show 0 ≤ i ∧ i ≤ Ll.len l ∧ (b = true ↔ clTo l now i)
      exact ⟨by omega, by have : (0 : Int) ≤ Ll.len l := Int.natCast_nonneg _; omega, by rw [q1, q2]; exact ⟨fun _ j a b => by omega, fun _ => rfl⟩⟩
    · show (24 - i).toNat < LL
      exact Nat.lt_of_le_of_lt (show _ ≤ 1000 by omega) (by decide)
    · exact ⟨⟨[.b b, .i .i64 i], [], [], [], by simp [gets, tsOf, g0, g1, g2, g3, g4], by simp [gets, g0, g1, g2, g3, g4], rfl, rfl, by simp [listsOf] <;> rfl⟩⟩
  · exact h_.elim
abbrev clF {A : Go.Rx.Alg} : Code → Go.Rx.SS A → (Go.Rx.Ex → Go.Rx.SS A → A.R) → A.R := fun c s K => bif Nat.beq s.nx 7 then cl7F c s K else cl9F c s K
theorem clF_ok {d : Nat} (hd : 100 ≤ d) : LoopOK (fs := fst) (ov := false) Try.prog AW d 4 [false, true, false, true, true, true, true, true, true, true, true] clF := by
  intro m hm fn c0 h1 h2 c ro h3 s K W ν S h hs
  simp only [clF] at h
  cases hb : Nat.beq s.nx 7
  · rw [hb] at h; exact cl9F_ok hd m hm fn c0 h1 h2 c ro h3 s K W ν S h hs
  · rw [hb] at h; exact cl7F_ok hd m hm fn c0 h1 h2 c ro h3 s K W ν S h hs
abbrev lpC {A : Go.Rx.Alg} : Nat → Go.Rx.LoopS A := Go.Rx.lpOf [(4, [false, true, false, true, true, true, true, true, true, true, true], clF)]
theorem lpC_ok {d : Nat} (hd : 100 ≤ d) : LoopsAll (fs := fst) (ov := false) Try.prog AW d lpC := lpOf_ok fun x hx => by
  simp only [List.mem_cons, List.not_mem_nil, or_false] at hx
  rcases hx with rfl
  · exact clF_ok (by omega)
abbrev spQ {A : Go.Rx.Alg} : Go.Rx.SpL A := [(AW, Go.Rx.awakeS), (14, m64S), (12, provS)]
theorem spQ_ok {ov : Bool} {d : Nat} (hd : 300 ≤ d) : SpOK (fs := fst) (ov := ov) Try.prog AW d spQ := SpOK.cons awake_ok (SpOK.cons (m64S_ok (by omega)) (SpOK.cons (provS_ok (by omega)) SpOK.nil))
theorem spQ_aw {fs : Fs} {ov : Bool} : (spOf (A := stdA fs ov) spQ AW).isSome = true := rfl
theorem once_eq (need less now age more : Int) (l : Ll) (KK : KS (stdA fst false)) : sFunc Try.prog 30 (sCall Try.prog 30 (spOf spQ) lpC 20) lpC 4 [.ls false 0 (Ll.len l), .i .i64 need, .i .i64 less, .i .i64 now, .i .i64 age, .i .i64 more] (lsMem 0 [([.int .i64, .bool, .int .i64], l)]) 1 KK =
  (cond (decide ((Ll.len l) > (20 : Int)))
 (KK (.b true) (lsMem 0 [([.int .i64, .bool, .int .i64], l)]) 1 [])
 ((1 : Int) ≤ (1099511627776 : Int) ∧ ((1099511627776 : Int) ≤ (9223372036854775807 : Int) ∧ ((1 : Int) ≤ (1099511627776 : Int) ∧ ((1099511627776 : Int) ≤ (9223372036854775807 : Int) ∧ ((1 : Int) ≤ (1099511627776 : Int) ∧ ((1099511627776 : Int) ≤ (9223372036854775807 : Int) ∧ ((1 : Int) ≤ (1099511627776 : Int) ∧ ((1099511627776 : Int) ≤ (9223372036854775807 : Int) ∧ ((1 : Int) ≤ (1099511627776 : Int) ∧ ((1099511627776 : Int) ≤ (9223372036854775807 : Int) ∧ ((Ll.len l) = (Ll.len l) ∧ (cond (provB l (need % (1099511627776 : Int)) (now % (1099511627776 : Int)) (age % (1099511627776 : Int)))
 ((Ll.len l) = (Ll.len l) ∧ (cond (!(provB l (IntKind.wrap .i64 ((need % (1099511627776 : Int)) - (less % (1099511627776 : Int)))) (now % (1099511627776 : Int)) (age % (1099511627776 : Int))))
 (KK (.b false) (lsMem 0 [([.int .i64, .bool, .int .i64], l)]) 1 [])
 ((Ll.len l) = (Ll.len l) ∧ (cond (!(provB l (need % (1099511627776 : Int)) (now % (1099511627776 : Int)) (IntKind.wrap .i64 ((age % (1099511627776 : Int)) + (more % (1099511627776 : Int))))))
 (KK (.b false) (lsMem 0 [([.int .i64, .bool, .int .i64], l)]) 1 [])
 ((Ll.len l) = (Ll.len l) ∧ (cond (decide ((Ll.len l) = (0 : Int)))
 ((Ll.len [[(need % (1099511627776 : Int)), (boolI false), (now % (1099511627776 : Int))]]) ≤ (1000000 : Int) ∧ ((Ll.len l) = (Ll.len l) ∧ (cond (decide ((Ll.len l) = (0 : Int)))
 ((Ll.len [[(need % (1099511627776 : Int)), (boolI true), (now % (1099511627776 : Int))]]) ≤ (1000000 : Int) ∧ ((Ll.len l) = (Ll.len l) ∧ ((0 : Int) = (0 : Int) ∧ ((Ll.len l) ≤ (20 : Int) ∧ ((Ll.len [[(need % (1099511627776 : Int)), (boolI false), (now % (1099511627776 : Int))]]) = (Ll.len [[(need % (1099511627776 : Int)), (boolI false), (now % (1099511627776 : Int))]]) ∧ (cond (!(provB [[(need % (1099511627776 : Int)), (boolI false), (now % (1099511627776 : Int))]] (need % (1099511627776 : Int)) (now % (1099511627776 : Int)) (age % (1099511627776 : Int))))
 (cond (!(clB l (now % (1099511627776 : Int))))
 (KK (.b true) (lsMem 0 [([.int .i64, .bool, .int .i64], l)]) 1 [])
 ((Ll.len [[(need % (1099511627776 : Int)), (boolI true), (now % (1099511627776 : Int))]]) = (Ll.len [[(need % (1099511627776 : Int)), (boolI true), (now % (1099511627776 : Int))]]) ∧ (cond (provB [[(need % (1099511627776 : Int)), (boolI true), (now % (1099511627776 : Int))]] (need % (1099511627776 : Int)) (now % (1099511627776 : Int)) (age % (1099511627776 : Int)))
 (KK (.b true) (lsMem 0 [([.int .i64, .bool, .int .i64], l)]) 1 [])
 (KK (.b false) (lsMem 0 [([.int .i64, .bool, .int .i64], l)]) 1 []))))
 (KK (.b false) (lsMem 0 [([.int .i64, .bool, .int .i64], l)]) 1 [])))))))
 ((Ll.len l) ≤ (1000000 : Int) ∧ ((Ll.len l) = (Ll.len l) ∧ ((Ll.len (l ++ [[(need % (1099511627776 : Int)), (boolI true), (now % (1099511627776 : Int))]])) ≤ (1000000 : Int) ∧ False))))))
 ((Ll.len l) ≤ (1000000 : Int) ∧ ((Ll.len l) = (Ll.len l) ∧ ((Ll.len (l ++ [[(need % (1099511627776 : Int)), (boolI false), (now % (1099511627776 : Int))]])) ≤ (1000000 : Int) ∧ ((Ll.len l) = (Ll.len l) ∧ (cond (decide ((Ll.len l) = (0 : Int)))
 ((Ll.len [[(need % (1099511627776 : Int)), (boolI true), (now % (1099511627776 : Int))]]) ≤ (1000000 : Int) ∧ False)
 ((Ll.len l) ≤ (1000000 : Int) ∧ ((Ll.len l) = (Ll.len l) ∧ ((Ll.len (l ++ [[(need % (1099511627776 : Int)), (boolI true), (now % (1099511627776 : Int))]])) ≤ (1000000 : Int) ∧ ((Ll.len l) = (Ll.len l) ∧ ((0 : Int) = (0 : Int) ∧ ((Ll.len l) ≤ (20 : Int) ∧ ((Ll.len (l ++ [[(need % (1099511627776 : Int)), (boolI false), (now % (1099511627776 : Int))]])) = (Ll.len (l ++ [[(need % (1099511627776 : Int)), (boolI false), (now % (1099511627776 : Int))]])) ∧ (cond (!(provB (l ++ [[(need % (1099511627776 : Int)), (boolI false), (now % (1099511627776 : Int))]]) (need % (1099511627776 : Int)) (now % (1099511627776 : Int)) (age % (1099511627776 : Int))))
 (cond (!(clB l (now % (1099511627776 : Int))))
 (KK (.b true) (lsMem 0 [([.int .i64, .bool, .int .i64], l)]) 1 [])
 ((Ll.len (l ++ [[(need % (1099511627776 : Int)), (boolI true), (now % (1099511627776 : Int))]])) = (Ll.len (l ++ [[(need % (1099511627776 : Int)), (boolI true), (now % (1099511627776 : Int))]])) ∧ (cond (provB (l ++ [[(need % (1099511627776 : Int)), (boolI true), (now % (1099511627776 : Int))]]) (need % (1099511627776 : Int)) (now % (1099511627776 : Int)) (age % (1099511627776 : Int)))
 (KK (.b true) (lsMem 0 [([.int .i64, .bool, .int .i64], l)]) 1 [])
 (KK (.b false) (lsMem 0 [([.int .i64, .bool, .int .i64], l)]) 1 []))))
 (KK (.b false) (lsMem 0 [([.int .i64, .bool, .int .i64], l)]) 1 []))))))))))))))))))))
 ((Ll.len l) = (Ll.len l) ∧ (cond (decide ((Ll.len l) = (0 : Int)))
 ((Ll.len [[(need % (1099511627776 : Int)), (boolI false), (now % (1099511627776 : Int))]]) ≤ (1000000 : Int) ∧ ((Ll.len l) = (Ll.len l) ∧ (cond (decide ((Ll.len l) = (0 : Int)))
 ((Ll.len [[(need % (1099511627776 : Int)), (boolI true), (now % (1099511627776 : Int))]]) ≤ (1000000 : Int) ∧ ((Ll.len l) = (Ll.len l) ∧ ((0 : Int) = (0 : Int) ∧ ((Ll.len l) ≤ (20 : Int) ∧ ((Ll.len [[(need % (1099511627776 : Int)), (boolI false), (now % (1099511627776 : Int))]]) = (Ll.len [[(need % (1099511627776 : Int)), (boolI false), (now % (1099511627776 : Int))]]) ∧ (cond (!(provB [[(need % (1099511627776 : Int)), (boolI false), (now % (1099511627776 : Int))]] (need % (1099511627776 : Int)) (now % (1099511627776 : Int)) (age % (1099511627776 : Int))))
 (cond (!(clB l (now % (1099511627776 : Int))))
 (KK (.b true) (lsMem 0 [([.int .i64, .bool, .int .i64], l)]) 1 [])
 ((Ll.len [[(need % (1099511627776 : Int)), (boolI true), (now % (1099511627776 : Int))]]) = (Ll.len [[(need % (1099511627776 : Int)), (boolI true), (now % (1099511627776 : Int))]]) ∧ (cond (provB [[(need % (1099511627776 : Int)), (boolI true), (now % (1099511627776 : Int))]] (need % (1099511627776 : Int)) (now % (1099511627776 : Int)) (age % (1099511627776 : Int)))
 (KK (.b true) (lsMem 0 [([.int .i64, .bool, .int .i64], l)]) 1 [])
 (KK (.b false) (lsMem 0 [([.int .i64, .bool, .int .i64], l)]) 1 []))))
 (KK (.b false) (lsMem 0 [([.int .i64, .bool, .int .i64], l)]) 1 [])))))))
 ((Ll.len l) ≤ (1000000 : Int) ∧ ((Ll.len l) = (Ll.len l) ∧ ((Ll.len (l ++ [[(need % (1099511627776 : Int)), (boolI true), (now % (1099511627776 : Int))]])) ≤ (1000000 : Int) ∧ False))))))
 ((Ll.len l) ≤ (1000000 : Int) ∧ ((Ll.len l) = (Ll.len l) ∧ ((Ll.len (l ++ [[(need % (1099511627776 : Int)), (boolI false), (now % (1099511627776 : Int))]])) ≤ (1000000 : Int) ∧ ((Ll.len l) = (Ll.len l) ∧ (cond (decide ((Ll.len l) = (0 : Int)))
 ((Ll.len [[(need % (1099511627776 : Int)), (boolI true), (now % (1099511627776 : Int))]]) ≤ (1000000 : Int) ∧ False)
 ((Ll.len l) ≤ (1000000 : Int) ∧ ((Ll.len l) = (Ll.len l) ∧ ((Ll.len (l ++ [[(need % (1099511627776 : Int)), (boolI true), (now % (1099511627776 : Int))]])) ≤ (1000000 : Int) ∧ ((Ll.len l) = (Ll.len l) ∧ ((0 : Int) = (0 : Int) ∧ ((Ll.len l) ≤ (20 : Int) ∧ ((Ll.len (l ++ [[(need % (1099511627776 : Int)), (boolI false), (now % (1099511627776 : Int))]])) = (Ll.len (l ++ [[(need % (1099511627776 : Int)), (boolI false), (now % (1099511627776 : Int))]])) ∧ (cond (!(provB (l ++ [[(need % (1099511627776 : Int)), (boolI false), (now % (1099511627776 : Int))]]) (need % (1099511627776 : Int)) (now % (1099511627776 : Int)) (age % (1099511627776 : Int))))
 (cond (!(clB l (now % (1099511627776 : Int))))
 (KK (.b true) (lsMem 0 [([.int .i64, .bool, .int .i64], l)]) 1 [])
 ((Ll.len (l ++ [[(need % (1099511627776 : Int)), (boolI true), (now % (1099511627776 : Int))]])) = (Ll.len (l ++ [[(need % (1099511627776 : Int)), (boolI true), (now % (1099511627776 : Int))]])) ∧ (cond (provB (l ++ [[(need % (1099511627776 : Int)), (boolI true), (now % (1099511627776 : Int))]]) (need % (1099511627776 : Int)) (now % (1099511627776 : Int)) (age % (1099511627776 : Int)))
 (KK (.b true) (lsMem 0 [([.int .i64, .bool, .int .i64], l)]) 1 [])
 (KK (.b false) (lsMem 0 [([.int .i64, .bool, .int .i64], l)]) 1 []))))
 (KK (.b false) (lsMem 0 [([.int .i64, .bool, .int .i64], l)]) 1 []))))))))))))))))))))))))))))) := by kernel_rfl
theorem once_pure {m : Nat} (hm : 400 ≤ m) {H : Hp} {nx : Nat} (need less now age more : Int) {v_l : LV} {l : Ll} (hl_l : IsL H nx [.int .i64, .bool, .int .i64] l v_l) : Pure Try.prog AW m 4 [v_l, .i .i64 need, .i .i64 less, .i .i64 now, .i .i64 age, .i .i64 more] H nx (.b true) := by
  obtain ⟨ν, n1, n2, n3, n4⟩ := ls_in (fs := fst) (ov := false) (l := [([.int .i64, .bool, .int .i64], l)]) (lvs := [v_l]) 0 (fun i x lv e1 e2 => by
    cases i with
    | zero => simp at e1 e2; subst e1 e2; exact hl_l
    | succ i =>
      simp at e1) rfl
  refine pure_of (n := 20) (d := m - 21) (U := 30) (fs := fst) (ov := false) (spQ_ok (by omega)) spQ_aw (lpC_ok (by omega)) (by decide) (by decide) (by omega) (args := [.ls false 0 (Ll.len l), .i .i64 need, .i .i64 less, .i .i64 now, .i .i64 age, .i .i64 more]) (M := lsMem 0 [([.int .i64, .bool, .int .i64], l)]) (snx := 1) ?_ (VSL.cons (n4 0 _ _ rfl rfl) (VSL.cons rfl (VSL.cons rfl (VSL.cons rfl (VSL.cons rfl (VSL.cons rfl rfl)))))) (hs_in n2 n3)
  rw [once_eq]
  have hl : Ll.len l = (l.length : Int) := rfl
  by_cases h20 : Ll.len l > 20
  · rw [decide_eq_true h20]; exact end_b rfl
  · rw [decide_eq_false h20]
    obtain ⟨ND, hND, n0, n1⟩ : ∃ f, need % 1099511627776 = f ∧ 0 ≤ f ∧ f < 1099511627776 := ⟨_, rfl, Int.emod_nonneg _ (by omega), Int.emod_lt_of_pos _ (by omega)⟩
    obtain ⟨LS, hLS, s0, s1⟩ : ∃ f, less % 1099511627776 = f ∧ 0 ≤ f ∧ f < 1099511627776 := ⟨_, rfl, Int.emod_nonneg _ (by omega), Int.emod_lt_of_pos _ (by omega)⟩
    obtain ⟨NW, hNW, w0, w1⟩ : ∃ f, now % 1099511627776 = f ∧ 0 ≤ f ∧ f < 1099511627776 := ⟨_, rfl, Int.emod_nonneg _ (by omega), Int.emod_lt_of_pos _ (by omega)⟩
    obtain ⟨AG, hAG, a0, a1⟩ : ∃ f, age % 1099511627776 = f ∧ 0 ≤ f ∧ f < 1099511627776 := ⟨_, rfl, Int.emod_nonneg _ (by omega), Int.emod_lt_of_pos _ (by omega)⟩
    obtain ⟨MR, hMR, m0, m1⟩ : ∃ f, more % 1099511627776 = f ∧ 0 ≤ f ∧ f < 1099511627776 := ⟨_, rfl, Int.emod_nonneg _ (by omega), Int.emod_lt_of_pos _ (by omega)⟩
    rw [hND, hLS, hNW, hAG, hMR, wrap_id (show -9223372036854775808 ≤ ND - LS by omega) (by omega), wrap_id (show -9223372036854775808 ≤ AG + MR by omega) (by omega)]
    have f1 : provB l ND NW AG = true → provB l (ND - LS) NW AG = true := prov_less (by omega)
    have f2 : provB l ND NW AG = true → provB l ND NW (AG + MR) = true := prov_more a0 (by omega) (by omega)
    have f3 : provB (l ++ [[ND, boolI false, NW]]) ND NW AG = false := prov_bad
    have f4 : clB l NW = true → provB (l ++ [[ND, boolI true, NW]]) ND NW AG = true := fun h => prov_good (by omega) a0 (by omega) (clB_iff.1 h)
    have len1 : ∀ x : List Int, Ll.len (l ++ [x]) = Ll.len l + 1 := fun x => by show (((l ++ [x]).length : Nat) : Int) = _; rw [List.length_append, hl]; rfl
    have fin : cond (!(provB (l ++ [[ND, boolI false, NW]]) ND NW AG)) (cond (!(clB l NW)) (doneK (fs := fst) (ov := false) (.b true) 1 (.b true) (lsMem 0 [([.int .i64, .bool, .int .i64], l)]) 1 []) (Ll.len (l ++ [[ND, boolI true, NW]]) = Ll.len (l ++ [[ND, boolI true, NW]]) ∧ cond (provB (l ++ [[ND, boolI true, NW]]) ND NW AG) (doneK (fs := fst) (ov := false) (.b true) 1 (.b true) (lsMem 0 [([.int .i64, .bool, .int .i64], l)]) 1 []) (doneK (fs := fst) (ov := false) (.b true) 1 (.b false) (lsMem 0 [([.int .i64, .bool, .int .i64], l)]) 1 []))) (doneK (fs := fst) (ov := false) (.b true) 1 (.b false) (lsMem 0 [([.int .i64, .bool, .int .i64], l)]) 1 []) := by
      rw [f3]
      cases hc : clB l NW with
      | false => exact end_b rfl
      | true =>
        refine ⟨rfl, ?_⟩
        rw [f4 hc]; exact end_b rfl
    refine ⟨by omega, by omega, by omega, by omega, by omega, by omega, by omega, by omega, by omega, by omega, by trivial, ?_⟩
    have e1 := len1 [ND, boolI false, NW]
    have e2 := len1 [ND, boolI true, NW]
    by_cases hz : Ll.len l = 0
    · have hn : l = [] := List.length_eq_zero_iff.1 (by omega)
      subst hn
      have b1 : Ll.len ([[ND, boolI false, NW]] : Ll) ≤ 1000000 := by show ((1 : Nat) : Int) ≤ 1000000; omega
      have b2 : Ll.len ([[ND, boolI true, NW]] : Ll) ≤ 1000000 := by show ((1 : Nat) : Int) ≤ 1000000; omega
      rw [decide_eq_true hz]
      cases hp : provB [] ND NW AG with
      | false => exact ⟨rfl, b1, rfl, b2, rfl, rfl, by omega, rfl, fin⟩
      | true =>
        rw [f1 hp, f2 hp]
        exact ⟨rfl, rfl, rfl, b1, rfl, b2, rfl, rfl, by omega, rfl, fin⟩
    · rw [decide_eq_false hz]
      cases hp : provB l ND NW AG with
      | false => exact ⟨rfl, by omega, rfl, by omega, rfl, by omega, rfl, by omega, rfl, rfl, by omega, rfl, fin⟩
      | true =>
        rw [f1 hp, f2 hp]
        exact ⟨rfl, rfl, rfl, by omega, rfl, by omega, rfl, by omega, rfl, by omega, rfl, rfl, by omega, rfl, fin⟩
end Go.Proofs.Ytlbimnefemcaaaa
