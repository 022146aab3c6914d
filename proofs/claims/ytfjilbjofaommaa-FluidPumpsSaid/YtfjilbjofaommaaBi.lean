/-
  Layer 3: the law of pumping.
-/
import Derived.Test.YtfjilbjofaommaaBh
set_option linter.unusedSimpArgs false
set_option linter.unusedVariables false
set_option maxRecDepth 100000
namespace Go.Proofs.Ytfjilbjofaommaa
open Go Go.Rx

noncomputable abbrev fspm : Fs where
  i := fun n ls xs => match n, ls, xs with | 3, [h, c], [] => colE h c | 6, [h, c], [w, v] => pmE h c w v | _, _, _ => 0
  b := fun n ls xs => match n, ls, xs with | 30, [a, b], [] => sameL2 a b | _, _, _ => false
  l := fun n ls xs => match n, ls, xs with | 53, [h, c], [w, v] => pmA h c w v | 54, [h, c], [w, v] => pmO h c w v | _, _, _ => []
  rng := rngAt Try.prog
abbrev mpumpS {A : Go.Rx.Alg} : List (Go.Rx.SV A) → Go.Rx.SH A → Nat → Go.Rx.KS A → A.R := fun args_ M_ snx_ K_ => match args_ with
  | [.agg [x_h], x_c, .agg [.i .i64 w, .i .i64 v]] => (match Go.Rx.lsArg M_ [.int .i64, .int .i64, .int .i64, .int .i64] x_h with | some (h, n_h) => (A.need .eql n_h (A.len h) (match Go.Rx.lsArg M_ [.int .i64, .int .i64] x_c with | some (c, n_c) => (A.need .eql n_c (A.len c) ((M_.set (snx_) (some (.list 32 [.int .i64, .int .i64] true (A.appL 53 [h, c] [w, v])))).force fun M_ => ((M_.set (snx_ + 1) (some (.list 32 [.int .i64, .int .i64] true (A.appL 54 [h, c] [w, v])))).force fun M_ => (K_ (.tup [.ls true (snx_ + 0) (A.len (A.appL 53 [h, c] [w, v])), .ls true (snx_ + 1) (A.len (A.appL 54 [h, c] [w, v])), .i .i64 (A.app 6 [h, c] [w, v])]) M_ (snx_ + 2 + 1) [])))) | none => A.fail "mpump")) | none => A.fail "mpump")
  | _ => A.fail "mpump"
theorem mpumpS_ok {ov : Bool} {d : Nat} (hd : 4000 ≤ d) : SpecOK (fs := fspm) (ov := ov) Try.prog AW d 15 mpumpS := by
  intro m_ hm_ args_ M_ snx_ K_ h_ ν_ largs_ H_ nx_ ha_ hM_
  unfold mpumpS at h_
  split at h_
  · rename_i x_h x_c w v
    obtain ⟨y1, r1, rfl, ⟨l1, rfl, ⟨v_h, r2, rfl, hx_h, rfl⟩⟩, ⟨v_c, r3, rfl, hx_c, ⟨y4, r4, rfl, ⟨l4, rfl, ⟨y5, r5, rfl, rfl, ⟨y6, r6, rfl, rfl, rfl⟩⟩⟩, rfl⟩⟩⟩ := ha_
    split at h_
    · rename_i h n_h q_h
      obtain ⟨e_h, h_⟩ := h_
      split at h_
      · rename_i c n_c q_c
        obtain ⟨e_c, h_⟩ := h_
        exact gv_got (pump_gives (by omega) w v (lsArg_ok hM_ hx_h q_h e_h) (lsArg_ok hM_ hx_c q_c e_c)) hM_ h_
      · exact h_.elim
    · exact h_.elim
  · exact h_.elim
abbrev mrpumpS {A : Go.Rx.Alg} : List (Go.Rx.SV A) → Go.Rx.SH A → Nat → Go.Rx.KS A → A.R := fun args_ M_ snx_ K_ => match args_ with
  | [.agg [x_h], x_c, .agg [.i .i64 w, .i .i64 v]] => (match Go.Rx.lsArg M_ [.int .i64, .int .i64, .int .i64, .int .i64] x_h with | some (h, n_h) => (A.need .eql n_h (A.len h) (match Go.Rx.lsArg M_ [.int .i64, .int .i64] x_c with | some (c, n_c) => (A.need .eql n_c (A.len c) ((M_.set (snx_) (some (.list 32 [.int .i64, .int .i64] true (A.appL 53 [h, c] [w, v])))).force fun M_ => ((M_.set (snx_ + 1) (some (.list 32 [.int .i64, .int .i64] true (A.appL 54 [h, c] [w, v])))).force fun M_ => (K_ (.tup [.ls true (snx_ + 0) (A.len (A.appL 53 [h, c] [w, v])), .ls true (snx_ + 1) (A.len (A.appL 54 [h, c] [w, v])), .i .i64 (A.app 6 [h, c] [w, v])]) M_ (snx_ + 2 + 1) [])))) | none => A.fail "mrpump")) | none => A.fail "mrpump")
  | _ => A.fail "mrpump"
theorem mrpumpS_ok {ov : Bool} {d : Nat} (hd : 4000 ≤ d) : SpecOK (fs := fspm) (ov := ov) Try.prog AW d 16 mrpumpS := by
  intro m_ hm_ args_ M_ snx_ K_ h_ ν_ largs_ H_ nx_ ha_ hM_
  unfold mrpumpS at h_
  split at h_
  · rename_i x_h x_c w v
    obtain ⟨y1, r1, rfl, ⟨l1, rfl, ⟨v_h, r2, rfl, hx_h, rfl⟩⟩, ⟨v_c, r3, rfl, hx_c, ⟨y4, r4, rfl, ⟨l4, rfl, ⟨y5, r5, rfl, rfl, ⟨y6, r6, rfl, rfl, rfl⟩⟩⟩, rfl⟩⟩⟩ := ha_
    split at h_
    · rename_i h n_h q_h
      obtain ⟨e_h, h_⟩ := h_
      split at h_
      · rename_i c n_c q_c
        obtain ⟨e_c, h_⟩ := h_
        exact gv_got (rpump_gives (by omega) w v (lsArg_ok hM_ hx_h q_h e_h) (lsArg_ok hM_ hx_c q_c e_c)) hM_ h_
      · exact h_.elim
    · exact h_.elim
  · exact h_.elim
abbrev msameS {A : Go.Rx.Alg} : List (Go.Rx.SV A) → Go.Rx.SH A → Nat → Go.Rx.KS A → A.R := fun args_ M_ snx_ K_ => match args_ with
  | [x_a, x_b] => (match Go.Rx.lsArg M_ [.int .i64, .int .i64] x_a with | some (a, n_a) => (A.need .eql n_a (A.len a) (match Go.Rx.lsArg M_ [.int .i64, .int .i64] x_b with | some (b, n_b) => (A.need .eql n_b (A.len b) (A.need .leq (A.len a) (A.lit 1000000) (K_ (.b (A.appB 30 [a, b] [])) M_ snx_ []))) | none => A.fail "msame")) | none => A.fail "msame")
  | _ => A.fail "msame"
theorem msameS_ok {ov : Bool} {d : Nat} (hd : 1000 ≤ d) : SpecOK (fs := fspm) (ov := ov) Try.prog AW d 17 msameS := by
  intro m_ hm_ args_ M_ snx_ K_ h_ ν_ largs_ H_ nx_ ha_ hM_
  unfold msameS at h_
  split at h_
  · rename_i x_a x_b
    obtain ⟨v_a, r1, rfl, hx_a, ⟨v_b, r2, rfl, hx_b, rfl⟩⟩ := ha_
    split at h_
    · rename_i a n_a q_a
      obtain ⟨e_a, h_⟩ := h_
      split at h_
      · rename_i b n_b q_b
        obtain ⟨e_b, h_⟩ := h_
        obtain ⟨p1, h_⟩ := h_
        exact pure_got (sslug_pure (by omega) (lsArg_ok hM_ hx_a q_a e_a) (lsArg_ok hM_ hx_b q_b e_b) p1) hM_ (v := .b _) rfl h_
      · exact h_.elim
    · exact h_.elim
  · exact h_.elim
abbrev spPm {A : Go.Rx.Alg} : Go.Rx.SpL A := [(AW, Go.Rx.awakeS), (15, mpumpS), (16, mrpumpS), (17, msameS)]
theorem spPm_ok {ov : Bool} {d : Nat} (hd : 4000 ≤ d) : SpOK (fs := fspm) (ov := ov) Try.prog AW d spPm := SpOK.cons awake_ok (SpOK.cons (mpumpS_ok (by omega)) (SpOK.cons (mrpumpS_ok (by omega)) (SpOK.cons (msameS_ok (by omega)) SpOK.nil)))
theorem spPm_aw {fs : Fs} {ov : Bool} : (spOf (A := stdA fs ov) spPm AW).isSome = true := rfl
theorem pumps_eq (w v : Int) (h c : Ll) (KK : KS (stdA fspm true)) : sFunc Try.prog 30 (sCall Try.prog 30 (spOf spPm) noLoop 20) noLoop 5 [.agg [.ls false 0 (Ll.len h)], .ls false 1 (Ll.len c), .agg [.i .i64 w, .i .i64 v]] (lsMem 0 [([.int .i64, .int .i64, .int .i64, .int .i64], h), ([.int .i64, .int .i64], c)]) 2 KK =
  (cond (decide ((Ll.len h) > (18 : Int)))
 (KK (.b true) (lsMem 0 [([.int .i64, .int .i64, .int .i64, .int .i64], h), ([.int .i64, .int .i64], c)]) 2 [])
 (cond (decide ((Ll.len c) > (26 : Int)))
 (KK (.b true) (lsMem 0 [([.int .i64, .int .i64, .int .i64, .int .i64], h), ([.int .i64, .int .i64], c)]) 2 [])
 ((Ll.len c) = (Ll.len c) ∧ (cond (decide ((Ll.len c) = (0 : Int)))
 ((Ll.len h) = (Ll.len h) ∧ ((Ll.len []) = (Ll.len []) ∧ ((Ll.len h) = (Ll.len h) ∧ ((Ll.len c) = (Ll.len c) ∧ (cond (decide ((pmE h [] w v) = (pmE h c w v)))
 ((Ll.len (pmA h [] w v)) = (Ll.len (pmA h [] w v)) ∧ ((Ll.len (pmA h c w v)) = (Ll.len (pmA h c w v)) ∧ ((Ll.len (pmA h [] w v)) ≤ (1000000 : Int) ∧ (cond (sameL2 (pmA h [] w v) (pmA h c w v))
 ((Ll.len (pmO h [] w v)) = (Ll.len (pmO h [] w v)) ∧ ((Ll.len (pmO h c w v)) = (Ll.len (pmO h c w v)) ∧ ((Ll.len (pmO h [] w v)) ≤ (1000000 : Int) ∧ (cond (sameL2 (pmO h [] w v) (pmO h c w v))
 ((Ll.len []) = (Ll.len []) ∧ ((Ll.len c) = (Ll.len c) ∧ ((Ll.len []) ≤ (1000000 : Int) ∧ (cond (sameL2 [] c)
 (KK (.b true) (lsMem 0 [([.int .i64, .int .i64, .int .i64, .int .i64], h), ([.int .i64, .int .i64], c)]) 2 [])
 (KK (.b false) (lsMem 0 [([.int .i64, .int .i64, .int .i64, .int .i64], h), ([.int .i64, .int .i64], c)]) 2 [])))))
 (KK (.b false) (lsMem 0 [([.int .i64, .int .i64, .int .i64, .int .i64], h), ([.int .i64, .int .i64], c)]) 2 [])))))
 (KK (.b false) (lsMem 0 [([.int .i64, .int .i64, .int .i64, .int .i64], h), ([.int .i64, .int .i64], c)]) 2 [])))))
 (KK (.b false) (lsMem 0 [([.int .i64, .int .i64, .int .i64, .int .i64], h), ([.int .i64, .int .i64], c)]) 2 []))))))
 ((Ll.len c) ≤ (1000000 : Int) ∧ ((Ll.len h) = (Ll.len h) ∧ ((Ll.len c) = (Ll.len c) ∧ ((Ll.len h) = (Ll.len h) ∧ ((Ll.len c) = (Ll.len c) ∧ (cond (decide ((pmE h c w v) = (pmE h c w v)))
 ((Ll.len (pmA h c w v)) = (Ll.len (pmA h c w v)) ∧ ((Ll.len (pmA h c w v)) = (Ll.len (pmA h c w v)) ∧ ((Ll.len (pmA h c w v)) ≤ (1000000 : Int) ∧ (cond (sameL2 (pmA h c w v) (pmA h c w v))
 ((Ll.len (pmO h c w v)) = (Ll.len (pmO h c w v)) ∧ ((Ll.len (pmO h c w v)) = (Ll.len (pmO h c w v)) ∧ ((Ll.len (pmO h c w v)) ≤ (1000000 : Int) ∧ (cond (sameL2 (pmO h c w v) (pmO h c w v))
 ((Ll.len c) = (Ll.len c) ∧ ((Ll.len c) = (Ll.len c) ∧ ((Ll.len c) ≤ (1000000 : Int) ∧ (cond (sameL2 c c)
 (KK (.b true) (lsMem 0 [([.int .i64, .int .i64, .int .i64, .int .i64], h), ([.int .i64, .int .i64], c)]) 2 [])
 (KK (.b false) (lsMem 0 [([.int .i64, .int .i64, .int .i64, .int .i64], h), ([.int .i64, .int .i64], c)]) 2 [])))))
 (KK (.b false) (lsMem 0 [([.int .i64, .int .i64, .int .i64, .int .i64], h), ([.int .i64, .int .i64], c)]) 2 [])))))
 (KK (.b false) (lsMem 0 [([.int .i64, .int .i64, .int .i64, .int .i64], h), ([.int .i64, .int .i64], c)]) 2 [])))))
 (KK (.b false) (lsMem 0 [([.int .i64, .int .i64, .int .i64, .int .i64], h), ([.int .i64, .int .i64], c)]) 2 []))))))))))) := by kernel_rfl
theorem pumps_pure {m : Nat} (hm : 4100 ≤ m) {H : Hp} {nx : Nat} (w v : Int) {v_h : LV} {h : Ll} (hl_h : IsL H nx [.int .i64, .int .i64, .int .i64, .int .i64] h v_h) {v_c : LV} {c : Ll} (hl_c : IsL H nx [.int .i64, .int .i64] c v_c) : Pure Try.prog AW m 5 [.agg [v_h], v_c, .agg [.i .i64 w, .i .i64 v]] H nx (.b true) := by
  obtain ⟨ν, n1, n2, n3, n4⟩ := ls_in (fs := fspm) (ov := true) (l := [([.int .i64, .int .i64, .int .i64, .int .i64], h), ([.int .i64, .int .i64], c)]) (lvs := [v_h, v_c]) 0 (fun i x lv e1 e2 => by
    cases i with
    | zero => simp at e1 e2; subst e1 e2; exact hl_h
    | succ i =>
      cases i with
      | zero => simp at e1 e2; subst e1 e2; exact hl_c
      | succ i =>
        simp at e1) rfl
  refine pure_of (n := 20) (d := m - 21) (U := 30) (fs := fspm) (ov := true) (spPm_ok (by omega)) spPm_aw noLoop_ok (by decide) (by decide) (by omega) (args := [.agg [.ls false 0 (Ll.len h)], .ls false 1 (Ll.len c), .agg [.i .i64 w, .i .i64 v]]) (M := lsMem 0 [([.int .i64, .int .i64, .int .i64, .int .i64], h), ([.int .i64, .int .i64], c)]) (snx := 2) ?_ (VSL.cons ⟨_, rfl, (VSL.cons (n4 0 _ _ rfl rfl) rfl)⟩ (VSL.cons (n4 1 _ _ rfl rfl) (VSL.cons ⟨_, rfl, (VSL.cons rfl (VSL.cons rfl rfl))⟩ rfl))) (hs_in n2 n3)
  rw [pumps_eq]
  have hlh : Ll.len h = (h.length : Int) := rfl
  have hlc : Ll.len c = (c.length : Int) := rfl
  by_cases hz : c = []
  · subst hz
    have hA : Ll.len (pmA h [] w v) ≤ 1000000 := by have := pmA_len h [] w v; show ((List.length _ : Nat) : Int) ≤ _; simp at this; omega
    have hO : Ll.len (pmO h [] w v) ≤ 1000000 := by have := pmO_len h [] w v; show ((List.length _ : Nat) : Int) ≤ _; simp at this; simp [this]
    have h0 : Ll.len [] = 0 := rfl
    simp only [sameL2_self, decide_true, cond_true, cond_iff, h0]
    repeat' (first | exact end_b rfl | exact hA | exact hO | apply And.intro | intro _)
    all_goals first | omega | exact True.intro | (exfalso; omega)
  · have hl1 : c.length ≠ 0 := fun e => hz (List.length_eq_zero_iff.1 e)
    have hA : c.length ≤ 26 → Ll.len (pmA h c w v) ≤ 1000000 := fun hc => by have := pmA_len h c w v; show ((List.length _ : Nat) : Int) ≤ _; omega
    have hO : c.length ≤ 26 → Ll.len (pmO h c w v) ≤ 1000000 := fun hc => by have := pmO_len h c w v; show ((List.length _ : Nat) : Int) ≤ _; omega
    simp only [sameL2_self, decide_true, cond_true, cond_iff]
    repeat' (first | exact end_b rfl | exact hA (by omega) | exact hO (by omega) | apply And.intro | intro _)
    all_goals first | omega | exact True.intro | (exfalso; omega)
end Go.Proofs.Ytfjilbjofaommaa
