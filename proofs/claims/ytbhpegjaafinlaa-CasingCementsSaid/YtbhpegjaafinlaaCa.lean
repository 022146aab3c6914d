/-
  Layer 5: how far cement rises.
-/
import Derived.Test.YtbhpegjaafinlaaMi
import Derived.Test.YtbhpegjaafinlaaMx
import Derived.Test.YtbhpegjaafinlaaMk
import Derived.Test.YtbhpegjaafinlaaBn
set_option linter.unusedSimpArgs false
set_option linter.unusedVariables false
set_option maxRecDepth 100000
namespace Go.Proofs.Ytbhpegjaafinlaa
open Go Go.Rx

noncomputable abbrev fsc : Fs where
  i := fun n ls xs => match n, ls, xs with | 1, [l], [] => holeE l | 2, [l], [] => holeV l | 5, [l], [x] => if rightB l = true then valLo l x else 0 | 6, [l], [x] => if rightB l = true then valHi l x else 0 | 7, [], [a, b] => a % b | 8, [l], [] => risN l l.length | 9, [l], [v] => cemE l v | 10, [l], [v] => cemLo l v | 11, [l], [v] => cemHi l v | _, _, _ => 0
  b := fun _ _ _ => false
  l := fun n ls xs => match n, ls, xs with | 50, [l], [] => hgtL l | 51, [x], [] => annL x | _, _, _ => []
  rng := rngAt Try.prog
abbrev eannS {A : Go.Rx.Alg} : List (Go.Rx.SV A) → Go.Rx.SH A → Nat → Go.Rx.KS A → A.R := fun args_ M_ snx_ K_ => match args_ with
  | [x_x] => (match Go.Rx.lsArg M_ [.int .i64] x_x with | some (x, n_x) => (A.need .eql n_x (A.len x) ((M_.set snx_ (some (.list 30 [.int .i64, .int .i64, .int .i64, .int .i64] true (A.appL 51 [x] [])))).force fun M_ => K_ (.agg [.ls true snx_ (A.len (A.appL 51 [x] []))]) M_ (snx_ + 1) [])) | none => A.fail "eann")
  | _ => A.fail "eann"
theorem eannS_ok {ov : Bool} {d : Nat} (hd : 1000 ≤ d) : SpecOK (fs := fsc) (ov := ov) Try.prog AW d 5 eannS := by
  intro m_ hm_ args_ M_ snx_ K_ h_ ν_ largs_ H_ nx_ ha_ hM_
  unfold eannS at h_
  split at h_
  · rename_i x_x
    obtain ⟨v_x, r1, rfl, hx_x, rfl⟩ := ha_
    split at h_
    · rename_i x n_x q_x
      obtain ⟨e_x, h_⟩ := h_
      exact gives_got (annulus_gives (by omega) (lsArg_ok hM_ hx_x q_x e_x)) hM_ h_
    · exact h_.elim
  · exact h_.elim
abbrev em64S {A : Go.Rx.Alg} : List (Go.Rx.SV A) → Go.Rx.SH A → Nat → Go.Rx.KS A → A.R := fun args_ M_ snx_ K_ => match args_ with
  | [.i .i64 a, .i .i64 b] => (A.need .leq (A.lit 1) b (A.need .leq b (A.lit 9223372036854775807) (K_ (.i .i64 (A.app 7 [] [a, b])) M_ snx_ [])))
  | _ => A.fail "em64"
theorem em64S_ok {ov : Bool} {d : Nat} (hd : 1000 ≤ d) : SpecOK (fs := fsc) (ov := ov) Try.prog AW d 7 em64S := by
  intro m_ hm_ args_ M_ snx_ K_ h_ ν_ largs_ H_ nx_ ha_ hM_
  unfold em64S at h_
  split at h_
  · rename_i a b
    obtain ⟨y1, r1, rfl, rfl, ⟨y2, r2, rfl, rfl, rfl⟩⟩ := ha_
    obtain ⟨p1, h_⟩ := h_
    obtain ⟨p2, h_⟩ := h_
    exact pure_got (m64_pure (by omega) a b p1 p2) hM_ (v := .i .i64 _) rfl h_
  · exact h_.elim
abbrev uechkS {A : Go.Rx.Alg} : List (Go.Rx.SV A) → Go.Rx.SH A → Nat → Go.Rx.KS A → A.R := fun args_ M_ snx_ K_ => match args_ with
  | [.agg [x_l]] => (match Go.Rx.lsArg M_ [.int .i64, .int .i64, .int .i64, .int .i64] x_l with | some (l, n_l) => (A.need .eql n_l (A.len l) (K_ (.i .i64 (A.app 1 [l] [])) M_ snx_ [])) | none => A.fail "uechk")
  | _ => A.fail "uechk"
theorem uechkS_ok {ov : Bool} {d : Nat} (hd : 1000 ≤ d) : SpecOK (fs := fsc) (ov := ov) Try.prog AW d 12 uechkS := by
  intro m_ hm_ args_ M_ snx_ K_ h_ ν_ largs_ H_ nx_ ha_ hM_
  unfold uechkS at h_
  split at h_
  · rename_i x_l
    obtain ⟨y1, r1, rfl, ⟨l1, rfl, ⟨v_l, r2, rfl, hx_l, rfl⟩⟩, rfl⟩ := ha_
    split at h_
    · rename_i l n_l q_l
      obtain ⟨e_l, h_⟩ := h_
      exact pure_got (chk_pure (by omega) (lsArg_ok hM_ hx_l q_l e_l)) hM_ (v := .i .i64 _) rfl h_
    · exact h_.elim
  · exact h_.elim
abbrev uevolS {A : Go.Rx.Alg} : List (Go.Rx.SV A) → Go.Rx.SH A → Nat → Go.Rx.KS A → A.R := fun args_ M_ snx_ K_ => match args_ with
  | [.agg [x_l]] => (match Go.Rx.lsArg M_ [.int .i64, .int .i64, .int .i64, .int .i64] x_l with | some (l, n_l) => (A.need .eql n_l (A.len l) (K_ (.i .i64 (A.app 2 [l] [])) M_ snx_ [])) | none => A.fail "uevol")
  | _ => A.fail "uevol"
theorem uevolS_ok {ov : Bool} {d : Nat} (hd : 1000 ≤ d) : SpecOK (fs := fsc) (ov := ov) Try.prog AW d 6 uevolS := by
  intro m_ hm_ args_ M_ snx_ K_ h_ ν_ largs_ H_ nx_ ha_ hM_
  unfold uevolS at h_
  split at h_
  · rename_i x_l
    obtain ⟨y1, r1, rfl, ⟨l1, rfl, ⟨v_l, r2, rfl, hx_l, rfl⟩⟩, rfl⟩ := ha_
    split at h_
    · rename_i l n_l q_l
      obtain ⟨e_l, h_⟩ := h_
      exact pure_got (vol_pure (by omega) (lsArg_ok hM_ hx_l q_l e_l)) hM_ (v := .i .i64 _) rfl h_
    · exact h_.elim
  · exact h_.elim
abbrev uehgtS {A : Go.Rx.Alg} : List (Go.Rx.SV A) → Go.Rx.SH A → Nat → Go.Rx.KS A → A.R := fun args_ M_ snx_ K_ => match args_ with
  | [.agg [x_l]] => (match Go.Rx.lsArg M_ [.int .i64, .int .i64, .int .i64, .int .i64] x_l with | some (l, n_l) => (A.need .eql n_l (A.len l) ((M_.set snx_ (some (.list 64 [.int .i64, .int .i64] true (A.appL 50 [l] [])))).force fun M_ => K_ (.agg [.ls true snx_ (A.len (A.appL 50 [l] []))]) M_ (snx_ + 1) [])) | none => A.fail "uehgt")
  | _ => A.fail "uehgt"
theorem uehgtS_ok {ov : Bool} {d : Nat} (hd : 1000 ≤ d) : SpecOK (fs := fsc) (ov := ov) Try.prog AW d 15 uehgtS := by
  intro m_ hm_ args_ M_ snx_ K_ h_ ν_ largs_ H_ nx_ ha_ hM_
  unfold uehgtS at h_
  split at h_
  · rename_i x_l
    obtain ⟨y1, r1, rfl, ⟨l1, rfl, ⟨v_l, r2, rfl, hx_l, rfl⟩⟩, rfl⟩ := ha_
    split at h_
    · rename_i l n_l q_l
      obtain ⟨e_l, h_⟩ := h_
      exact gives_got (height_gives (by omega) (lsArg_ok hM_ hx_l q_l e_l)) hM_ h_
    · exact h_.elim
  · exact h_.elim
abbrev ueatS {A : Go.Rx.Alg} : List (Go.Rx.SV A) → Go.Rx.SH A → Nat → Go.Rx.KS A → A.R := fun args_ M_ snx_ K_ => match args_ with
  | [.agg [x_l], .i .i64 x] => (match Go.Rx.lsArg M_ [.int .i64, .int .i64] x_l with | some (l, n_l) => (A.need .eql n_l (A.len l) (K_ (.agg [.i .i64 (A.app 5 [l] [x]), .i .i64 (A.app 6 [l] [x])]) M_ snx_ [])) | none => A.fail "ueat")
  | _ => A.fail "ueat"
theorem ueatS_ok {ov : Bool} {d : Nat} (hd : 1000 ≤ d) : SpecOK (fs := fsc) (ov := ov) Try.prog AW d 14 ueatS := by
  intro m_ hm_ args_ M_ snx_ K_ h_ ν_ largs_ H_ nx_ ha_ hM_
  unfold ueatS at h_
  split at h_
  · rename_i x_l x
    obtain ⟨y1, r1, rfl, ⟨l1, rfl, ⟨v_l, r2, rfl, hx_l, rfl⟩⟩, ⟨y3, r3, rfl, rfl, rfl⟩⟩ := ha_
    split at h_
    · rename_i l n_l q_l
      obtain ⟨e_l, h_⟩ := h_
      exact pure_got (at_pure (by omega) x (lsArg_ok hM_ hx_l q_l e_l)) hM_ (v := .agg [.i .i64 _, .i .i64 _]) ⟨_, rfl, (VSL.cons rfl (VSL.cons rfl rfl))⟩ h_
    · exact h_.elim
  · exact h_.elim
abbrev urchkS {A : Go.Rx.Alg} : List (Go.Rx.SV A) → Go.Rx.SH A → Nat → Go.Rx.KS A → A.R := fun args_ M_ snx_ K_ => match args_ with
  | [.agg [x_l]] => (match Go.Rx.lsArg M_ [.int .i64, .int .i64, .int .i64, .int .i64] x_l with | some (l, n_l) => (A.need .eql n_l (A.len l) (K_ (.i .i64 (A.app 1 [l] [])) M_ snx_ [])) | none => A.fail "urchk")
  | _ => A.fail "urchk"
theorem urchkS_ok {ov : Bool} {d : Nat} (hd : 1000 ≤ d) : SpecOK (fs := fsc) (ov := ov) Try.prog AW d 21 urchkS := by
  intro m_ hm_ args_ M_ snx_ K_ h_ ν_ largs_ H_ nx_ ha_ hM_
  unfold urchkS at h_
  split at h_
  · rename_i x_l
    obtain ⟨y1, r1, rfl, ⟨l1, rfl, ⟨v_l, r2, rfl, hx_l, rfl⟩⟩, rfl⟩ := ha_
    split at h_
    · rename_i l n_l q_l
      obtain ⟨e_l, h_⟩ := h_
      exact pure_got (rchk_pure (by omega) (lsArg_ok hM_ hx_l q_l e_l)) hM_ (v := .i .i64 _) rfl h_
    · exact h_.elim
  · exact h_.elim
abbrev urvolS {A : Go.Rx.Alg} : List (Go.Rx.SV A) → Go.Rx.SH A → Nat → Go.Rx.KS A → A.R := fun args_ M_ snx_ K_ => match args_ with
  | [.agg [x_l]] => (match Go.Rx.lsArg M_ [.int .i64, .int .i64, .int .i64, .int .i64] x_l with | some (l, n_l) => (A.need .eql n_l (A.len l) (K_ (.i .i64 (A.app 2 [l] [])) M_ snx_ [])) | none => A.fail "urvol")
  | _ => A.fail "urvol"
theorem urvolS_ok {ov : Bool} {d : Nat} (hd : 1000 ≤ d) : SpecOK (fs := fsc) (ov := ov) Try.prog AW d 22 urvolS := by
  intro m_ hm_ args_ M_ snx_ K_ h_ ν_ largs_ H_ nx_ ha_ hM_
  unfold urvolS at h_
  split at h_
  · rename_i x_l
    obtain ⟨y1, r1, rfl, ⟨l1, rfl, ⟨v_l, r2, rfl, hx_l, rfl⟩⟩, rfl⟩ := ha_
    split at h_
    · rename_i l n_l q_l
      obtain ⟨e_l, h_⟩ := h_
      exact pure_got (rvol_pure (by omega) (lsArg_ok hM_ hx_l q_l e_l)) hM_ (v := .i .i64 _) rfl h_
    · exact h_.elim
  · exact h_.elim
abbrev urhgtS {A : Go.Rx.Alg} : List (Go.Rx.SV A) → Go.Rx.SH A → Nat → Go.Rx.KS A → A.R := fun args_ M_ snx_ K_ => match args_ with
  | [.agg [x_l]] => (match Go.Rx.lsArg M_ [.int .i64, .int .i64, .int .i64, .int .i64] x_l with | some (l, n_l) => (A.need .eql n_l (A.len l) ((M_.set snx_ (some (.list 64 [.int .i64, .int .i64] true (A.appL 50 [l] [])))).force fun M_ => K_ (.agg [.ls true snx_ (A.len (A.appL 50 [l] []))]) M_ (snx_ + 1) [])) | none => A.fail "urhgt")
  | _ => A.fail "urhgt"
theorem urhgtS_ok {ov : Bool} {d : Nat} (hd : 1000 ≤ d) : SpecOK (fs := fsc) (ov := ov) Try.prog AW d 24 urhgtS := by
  intro m_ hm_ args_ M_ snx_ K_ h_ ν_ largs_ H_ nx_ ha_ hM_
  unfold urhgtS at h_
  split at h_
  · rename_i x_l
    obtain ⟨y1, r1, rfl, ⟨l1, rfl, ⟨v_l, r2, rfl, hx_l, rfl⟩⟩, rfl⟩ := ha_
    split at h_
    · rename_i l n_l q_l
      obtain ⟨e_l, h_⟩ := h_
      exact gives_got (rheight_gives (by omega) (lsArg_ok hM_ hx_l q_l e_l)) hM_ h_
    · exact h_.elim
  · exact h_.elim
abbrev uratS {A : Go.Rx.Alg} : List (Go.Rx.SV A) → Go.Rx.SH A → Nat → Go.Rx.KS A → A.R := fun args_ M_ snx_ K_ => match args_ with
  | [.agg [x_l], .i .i64 x] => (match Go.Rx.lsArg M_ [.int .i64, .int .i64] x_l with | some (l, n_l) => (A.need .eql n_l (A.len l) (K_ (.agg [.i .i64 (A.app 5 [l] [x]), .i .i64 (A.app 6 [l] [x])]) M_ snx_ [])) | none => A.fail "urat")
  | _ => A.fail "urat"
theorem uratS_ok {ov : Bool} {d : Nat} (hd : 1000 ≤ d) : SpecOK (fs := fsc) (ov := ov) Try.prog AW d 23 uratS := by
  intro m_ hm_ args_ M_ snx_ K_ h_ ν_ largs_ H_ nx_ ha_ hM_
  unfold uratS at h_
  split at h_
  · rename_i x_l x
    obtain ⟨y1, r1, rfl, ⟨l1, rfl, ⟨v_l, r2, rfl, hx_l, rfl⟩⟩, ⟨y3, r3, rfl, rfl, rfl⟩⟩ := ha_
    split at h_
    · rename_i l n_l q_l
      obtain ⟨e_l, h_⟩ := h_
      exact pure_got (rat_pure (by omega) x (lsArg_ok hM_ hx_l q_l e_l)) hM_ (v := .agg [.i .i64 _, .i .i64 _]) ⟨_, rfl, (VSL.cons rfl (VSL.cons rfl rfl))⟩ h_
    · exact h_.elim
  · exact h_.elim
abbrev spU1 {A : Go.Rx.Alg} : Go.Rx.SpL A := [(AW, Go.Rx.awakeS), (12, uechkS), (6, uevolS), (15, uehgtS), (14, ueatS), (21, urchkS), (22, urvolS), (24, urhgtS), (23, uratS)]
theorem spU1_ok {ov : Bool} {d : Nat} (hd : 1000 ≤ d) : SpOK (fs := fsc) (ov := ov) Try.prog AW d spU1 := SpOK.cons awake_ok (SpOK.cons (uechkS_ok (by omega)) (SpOK.cons (uevolS_ok (by omega)) (SpOK.cons (uehgtS_ok (by omega)) (SpOK.cons (ueatS_ok (by omega)) (SpOK.cons (urchkS_ok (by omega)) (SpOK.cons (urvolS_ok (by omega)) (SpOK.cons (urhgtS_ok (by omega)) (SpOK.cons (uratS_ok (by omega)) SpOK.nil))))))))
theorem spU1_aw {fs : Fs} {ov : Bool} : (spOf (A := stdA fs ov) spU1 AW).isSome = true := rfl
theorem cem_eq (v : Int) (l : Ll) (KK : KS (stdA fsc true)) : sFunc Try.prog 30 (sCall Try.prog 30 (spOf spU1) noLoop 20) noLoop 8 [.agg [.ls false 0 (Ll.len l)], .i .i64 v] (lsMem 0 [([.int .i64, .int .i64, .int .i64, .int .i64], l)]) 1 KK =
  ((Ll.len l) = (Ll.len l) ∧ (cond (decide ((holeE l) ≠ (0 : Int)))
 (KK (.tup [(.agg [(.i .i64 (0 : Int)), (.i .i64 (0 : Int))]), (.i .i64 (holeE l))]) (lsMem 0 [([.int .i64, .int .i64, .int .i64, .int .i64], l)]) 1 [])
 (cond (decide (v < (0 : Int)))
 (KK (.tup [(.agg [(.i .i64 (0 : Int)), (.i .i64 (0 : Int))]), (.i .i64 (2 : Int))]) (lsMem 0 [([.int .i64, .int .i64, .int .i64, .int .i64], l)]) 1 [])
 ((Ll.len l) = (Ll.len l) ∧ (cond (decide (v > (holeV l)))
 (KK (.tup [(.agg [(.i .i64 (0 : Int)), (.i .i64 (0 : Int))]), (.i .i64 (2 : Int))]) (lsMem 0 [([.int .i64, .int .i64, .int .i64, .int .i64], l)]) 1 [])
 ((Ll.len l) = (Ll.len l) ∧ ((Ll.len (hgtL l)) = (Ll.len (hgtL l)) ∧ (KK (.tup [(.agg [(.i .i64 (if rightB (hgtL l) = true then valLo (hgtL l) v else 0)), (.i .i64 (if rightB (hgtL l) = true then valHi (hgtL l) v else 0))]), (.i .i64 (0 : Int))]) (lsMem 0 [([.int .i64, .int .i64, .int .i64, .int .i64], l)]) 1 [])))))))) := by kernel_rfl
theorem cem_pure {m : Nat} (hm : 1100 ≤ m) {H : Hp} {nx : Nat} (v : Int) {v_l : LV} {l : Ll} (hl_l : IsL H nx [.int .i64, .int .i64, .int .i64, .int .i64] l v_l) : Pure Try.prog AW m 8 [.agg [v_l], .i .i64 v] H nx (.tup [.agg [.i .i64 (cemLo l v), .i .i64 (cemHi l v)], .i .i64 (cemE l v)]) := by
  obtain ⟨ν, n1, n2, n3, n4⟩ := ls_in (fs := fsc) (ov := true) (l := [([.int .i64, .int .i64, .int .i64, .int .i64], l)]) (lvs := [v_l]) 0 (fun i x lv e1 e2 => by
    cases i with
    | zero => simp at e1 e2; subst e1 e2; exact hl_l
    | succ i =>
      simp at e1) rfl
  refine pure_of (n := 20) (d := m - 21) (U := 30) (fs := fsc) (ov := true) (spU1_ok (by omega)) spU1_aw noLoop_ok (by decide) (by decide) (by omega) (args := [.agg [.ls false 0 (Ll.len l)], .i .i64 v]) (M := lsMem 0 [([.int .i64, .int .i64, .int .i64, .int .i64], l)]) (snx := 1) ?_ (VSL.cons ⟨_, rfl, (VSL.cons (n4 0 _ _ rfl rfl) rfl)⟩ (VSL.cons rfl rfl)) (hs_in n2 n3)
  rw [cem_eq]
  have c1 : cemE l v = if ¬ holeE l = 0 then holeE l else if v < 0 ∨ volN l l.length < v then 2 else 0 := rfl
  have c2 : cemLo l v = if holeE l = 0 ∧ 0 ≤ v ∧ v ≤ volN l l.length then valLo (hgtP l l.length) v else 0 := rfl
  have c3 : cemHi l v = if holeE l = 0 ∧ 0 ≤ v ∧ v ≤ volN l l.length then valHi (hgtP l l.length) v else 0 := rfl
  by_cases hz : holeE l = 0
  · have hr := hgt_right (hole_of hz)
    have eH : hgtL l = hgtP l l.length := by unfold hgtL; rw [if_pos hz]
    have eV : holeV l = volN l l.length := by unfold holeV; rw [if_pos hz]
    rw [eH, eV]
    simp only [hz, hr, if_pos, cond_iff, decide_eq_true_eq]
    rw [if_neg (fun h => h hz)] at c1
    by_cases hv : v < 0 ∨ volN l l.length < v
    · rw [if_pos hv] at c1
      rw [if_neg (fun h => by omega)] at c2 c3
      rw [c1, c2, c3]
      repeat' (first | exact end_v rfl | apply And.intro | intro _)
      all_goals first | exact end_v rfl | omega | trivial
    · rw [if_neg hv] at c1
      rw [if_pos ⟨hz, by omega, by omega⟩] at c2 c3
      rw [c1, c2, c3]
      repeat' (first | exact end_v rfl | apply And.intro | intro _)
      all_goals first | exact end_v rfl | omega | trivial
  · rw [if_pos hz] at c1
    rw [if_neg (fun h => hz h.1)] at c2 c3
    rw [c1, c2, c3]
    simp only [hz, cond_iff]
    repeat' (first | exact end_v rfl | apply And.intro | intro _)
    all_goals first
      | omega
      | exact end_v rfl
      | trivial
abbrev cemS {A : Go.Rx.Alg} : List (Go.Rx.SV A) → Go.Rx.SH A → Nat → Go.Rx.KS A → A.R := fun args_ M_ snx_ K_ => match args_ with
  | [.agg [x_l], .i .i64 v] => (match Go.Rx.lsArg M_ [.int .i64, .int .i64, .int .i64, .int .i64] x_l with | some (l, n_l) => (A.need .eql n_l (A.len l) (K_ (.tup [.agg [.i .i64 (A.app 10 [l] [v]), .i .i64 (A.app 11 [l] [v])], .i .i64 (A.app 9 [l] [v])]) M_ snx_ [])) | none => A.fail "cem")
  | _ => A.fail "cem"
theorem cemS_ok {ov : Bool} {d : Nat} (hd : 1100 ≤ d) : SpecOK (fs := fsc) (ov := ov) Try.prog AW d 8 cemS := by
  intro m_ hm_ args_ M_ snx_ K_ h_ ν_ largs_ H_ nx_ ha_ hM_
  unfold cemS at h_
  split at h_
  · rename_i x_l v
    obtain ⟨y1, r1, rfl, ⟨l1, rfl, ⟨v_l, r2, rfl, hx_l, rfl⟩⟩, ⟨y3, r3, rfl, rfl, rfl⟩⟩ := ha_
    split at h_
    · rename_i l n_l q_l
      obtain ⟨e_l, h_⟩ := h_
      exact pure_got (cem_pure (by omega) v (lsArg_ok hM_ hx_l q_l e_l)) hM_ (v := .tup [.agg [.i .i64 _, .i .i64 _], .i .i64 _]) ⟨_, rfl, (VSL.cons ⟨_, rfl, (VSL.cons rfl (VSL.cons rfl rfl))⟩ (VSL.cons rfl rfl))⟩ h_
    · exact h_.elim
  · exact h_.elim
theorem rcem_eq (v : Int) (l : Ll) (KK : KS (stdA fsc true)) : sFunc Try.prog 30 (sCall Try.prog 30 (spOf spU1) noLoop 20) noLoop 10 [.agg [.ls false 0 (Ll.len l)], .i .i64 v] (lsMem 0 [([.int .i64, .int .i64, .int .i64, .int .i64], l)]) 1 KK =
  ((Ll.len l) = (Ll.len l) ∧ (cond (decide ((holeE l) ≠ (0 : Int)))
 (KK (.tup [(.agg [(.i .i64 (0 : Int)), (.i .i64 (0 : Int))]), (.i .i64 (holeE l))]) (lsMem 0 [([.int .i64, .int .i64, .int .i64, .int .i64], l)]) 1 [])
 (cond (decide (v < (0 : Int)))
 (KK (.tup [(.agg [(.i .i64 (0 : Int)), (.i .i64 (0 : Int))]), (.i .i64 (2 : Int))]) (lsMem 0 [([.int .i64, .int .i64, .int .i64, .int .i64], l)]) 1 [])
 ((Ll.len l) = (Ll.len l) ∧ (cond (decide (v > (holeV l)))
 (KK (.tup [(.agg [(.i .i64 (0 : Int)), (.i .i64 (0 : Int))]), (.i .i64 (2 : Int))]) (lsMem 0 [([.int .i64, .int .i64, .int .i64, .int .i64], l)]) 1 [])
 ((Ll.len l) = (Ll.len l) ∧ ((Ll.len (hgtL l)) = (Ll.len (hgtL l)) ∧ (KK (.tup [(.agg [(.i .i64 (if rightB (hgtL l) = true then valLo (hgtL l) v else 0)), (.i .i64 (if rightB (hgtL l) = true then valHi (hgtL l) v else 0))]), (.i .i64 (0 : Int))]) (lsMem 0 [([.int .i64, .int .i64, .int .i64, .int .i64], l)]) 1 [])))))))) := by kernel_rfl
theorem rcem_pure {m : Nat} (hm : 1100 ≤ m) {H : Hp} {nx : Nat} (v : Int) {v_l : LV} {l : Ll} (hl_l : IsL H nx [.int .i64, .int .i64, .int .i64, .int .i64] l v_l) : Pure Try.prog AW m 10 [.agg [v_l], .i .i64 v] H nx (.tup [.agg [.i .i64 (cemLo l v), .i .i64 (cemHi l v)], .i .i64 (cemE l v)]) := by
  obtain ⟨ν, n1, n2, n3, n4⟩ := ls_in (fs := fsc) (ov := true) (l := [([.int .i64, .int .i64, .int .i64, .int .i64], l)]) (lvs := [v_l]) 0 (fun i x lv e1 e2 => by
    cases i with
    | zero => simp at e1 e2; subst e1 e2; exact hl_l
    | succ i =>
      simp at e1) rfl
  refine pure_of (n := 20) (d := m - 21) (U := 30) (fs := fsc) (ov := true) (spU1_ok (by omega)) spU1_aw noLoop_ok (by decide) (by decide) (by omega) (args := [.agg [.ls false 0 (Ll.len l)], .i .i64 v]) (M := lsMem 0 [([.int .i64, .int .i64, .int .i64, .int .i64], l)]) (snx := 1) ?_ (VSL.cons ⟨_, rfl, (VSL.cons (n4 0 _ _ rfl rfl) rfl)⟩ (VSL.cons rfl rfl)) (hs_in n2 n3)
  rw [rcem_eq]
  have c1 : cemE l v = if ¬ holeE l = 0 then holeE l else if v < 0 ∨ volN l l.length < v then 2 else 0 := rfl
  have c2 : cemLo l v = if holeE l = 0 ∧ 0 ≤ v ∧ v ≤ volN l l.length then valLo (hgtP l l.length) v else 0 := rfl
  have c3 : cemHi l v = if holeE l = 0 ∧ 0 ≤ v ∧ v ≤ volN l l.length then valHi (hgtP l l.length) v else 0 := rfl
  by_cases hz : holeE l = 0
  · have hr := hgt_right (hole_of hz)
    have eH : hgtL l = hgtP l l.length := by unfold hgtL; rw [if_pos hz]
    have eV : holeV l = volN l l.length := by unfold holeV; rw [if_pos hz]
    rw [eH, eV]
    simp only [hz, hr, if_pos, cond_iff, decide_eq_true_eq]
    rw [if_neg (fun h => h hz)] at c1
    by_cases hv : v < 0 ∨ volN l l.length < v
    · rw [if_pos hv] at c1
      rw [if_neg (fun h => by omega)] at c2 c3
      rw [c1, c2, c3]
      repeat' (first | exact end_v rfl | apply And.intro | intro _)
      all_goals first | exact end_v rfl | omega | trivial
    · rw [if_neg hv] at c1
      rw [if_pos ⟨hz, by omega, by omega⟩] at c2 c3
      rw [c1, c2, c3]
      repeat' (first | exact end_v rfl | apply And.intro | intro _)
      all_goals first | exact end_v rfl | omega | trivial
  · rw [if_pos hz] at c1
    rw [if_neg (fun h => hz h.1)] at c2 c3
    rw [c1, c2, c3]
    simp only [hz, cond_iff]
    repeat' (first | exact end_v rfl | apply And.intro | intro _)
    all_goals first
      | omega
      | exact end_v rfl
      | trivial
abbrev rcemS {A : Go.Rx.Alg} : List (Go.Rx.SV A) → Go.Rx.SH A → Nat → Go.Rx.KS A → A.R := fun args_ M_ snx_ K_ => match args_ with
  | [.agg [x_l], .i .i64 v] => (match Go.Rx.lsArg M_ [.int .i64, .int .i64, .int .i64, .int .i64] x_l with | some (l, n_l) => (A.need .eql n_l (A.len l) (K_ (.tup [.agg [.i .i64 (A.app 10 [l] [v]), .i .i64 (A.app 11 [l] [v])], .i .i64 (A.app 9 [l] [v])]) M_ snx_ [])) | none => A.fail "rcem")
  | _ => A.fail "rcem"
theorem rcemS_ok {ov : Bool} {d : Nat} (hd : 1100 ≤ d) : SpecOK (fs := fsc) (ov := ov) Try.prog AW d 10 rcemS := by
  intro m_ hm_ args_ M_ snx_ K_ h_ ν_ largs_ H_ nx_ ha_ hM_
  unfold rcemS at h_
  split at h_
  · rename_i x_l v
    obtain ⟨y1, r1, rfl, ⟨l1, rfl, ⟨v_l, r2, rfl, hx_l, rfl⟩⟩, ⟨y3, r3, rfl, rfl, rfl⟩⟩ := ha_
    split at h_
    · rename_i l n_l q_l
      obtain ⟨e_l, h_⟩ := h_
      exact pure_got (rcem_pure (by omega) v (lsArg_ok hM_ hx_l q_l e_l)) hM_ (v := .tup [.agg [.i .i64 _, .i .i64 _], .i .i64 _]) ⟨_, rfl, (VSL.cons ⟨_, rfl, (VSL.cons rfl (VSL.cons rfl rfl))⟩ (VSL.cons rfl rfl))⟩ h_
    · exact h_.elim
  · exact h_.elim
abbrev spU2 {A : Go.Rx.Alg} : Go.Rx.SpL A := [(AW, Go.Rx.awakeS), (8, cemS), (10, rcemS)]
theorem spU2_ok {ov : Bool} {d : Nat} (hd : 1100 ≤ d) : SpOK (fs := fsc) (ov := ov) Try.prog AW d spU2 := SpOK.cons awake_ok (SpOK.cons (cemS_ok (by omega)) (SpOK.cons (rcemS_ok (by omega)) SpOK.nil))
theorem spU2_aw {fs : Fs} {ov : Bool} : (spOf (A := stdA fs ov) spU2 AW).isSome = true := rfl
theorem cements_eq (v : Int) (l : Ll) (KK : KS (stdA fsc true)) : sFunc Try.prog 30 (sCall Try.prog 30 (spOf spU2) noLoop 20) noLoop 4 [.agg [.ls false 0 (Ll.len l)], .i .i64 v] (lsMem 0 [([.int .i64, .int .i64, .int .i64, .int .i64], l)]) 1 KK =
  (cond (decide ((Ll.len l) > (18 : Int)))
 (KK (.b true) (lsMem 0 [([.int .i64, .int .i64, .int .i64, .int .i64], l)]) 1 [])
 ((Ll.len l) = (Ll.len l) ∧ ((Ll.len l) = (Ll.len l) ∧ (cond ((decide ((cemLo l v) = (cemLo l v))) && (decide ((cemHi l v) = (cemHi l v))))
 (cond (decide ((cemE l v) = (cemE l v)))
 (KK (.b true) (lsMem 0 [([.int .i64, .int .i64, .int .i64, .int .i64], l)]) 1 [])
 (KK (.b false) (lsMem 0 [([.int .i64, .int .i64, .int .i64, .int .i64], l)]) 1 []))
 (KK (.b false) (lsMem 0 [([.int .i64, .int .i64, .int .i64, .int .i64], l)]) 1 []))))) := by kernel_rfl
theorem cements_pure {m : Nat} (hm : 1200 ≤ m) {H : Hp} {nx : Nat} (v : Int) {v_l : LV} {l : Ll} (hl_l : IsL H nx [.int .i64, .int .i64, .int .i64, .int .i64] l v_l) : Pure Try.prog AW m 4 [.agg [v_l], .i .i64 v] H nx (.b true) := by
  obtain ⟨ν, n1, n2, n3, n4⟩ := ls_in (fs := fsc) (ov := true) (l := [([.int .i64, .int .i64, .int .i64, .int .i64], l)]) (lvs := [v_l]) 0 (fun i x lv e1 e2 => by
    cases i with
    | zero => simp at e1 e2; subst e1 e2; exact hl_l
    | succ i =>
      simp at e1) rfl
  refine pure_of (n := 20) (d := m - 21) (U := 30) (fs := fsc) (ov := true) (spU2_ok (by omega)) spU2_aw noLoop_ok (by decide) (by decide) (by omega) (args := [.agg [.ls false 0 (Ll.len l)], .i .i64 v]) (M := lsMem 0 [([.int .i64, .int .i64, .int .i64, .int .i64], l)]) (snx := 1) ?_ (VSL.cons ⟨_, rfl, (VSL.cons (n4 0 _ _ rfl rfl) rfl)⟩ (VSL.cons rfl rfl)) (hs_in n2 n3)
  rw [cements_eq]
  have ne : ∀ x : Int, decide (x = x) = true := fun x => decide_eq_true rfl
  simp only [ne, cond_true, cond_false, Bool.and_self]
  simp only [cond_iff]
  repeat' (first | exact end_b rfl | apply And.intro | intro _)
  all_goals first | exact end_b rfl | omega | trivial
theorem sum_eq (i s : Int) (l : Ll) (T : Al (SV (stdA fsc true))) (M : Al (SO (stdA fsc true))) (KK : Ex → List (SV (stdA fsc true)) → List (SO (stdA fsc true)) → List Ll → Prop) : sCode Try.prog (sCall Try.prog 30 (spOf sp0) noLoop 20) ⟨3, false, noLoop 3⟩ 30 (false :: [false, true, false, true, true, true, true, true, true, true]) (bodyAt Try.prog 3 [false, true, false, true, true, true, true, true, true, true]) (hdL (bodyAt Try.prog 3 [false, true, false, true, true, true, true, true, true, true]) T M 102 3 [(7, .p 2 0)] [(1, .list 30 [.int .i64, .int .i64, .int .i64, .int .i64] true l), (2, .row 25 [.ls true 1 (Ll.len l)])] [(9, .i .i64 s), (10, .i .i64 i)] [] [] [] []) (outL 3 (tsOf [9, 10] []) [] [] [] KK) =
  (cond (decide (i < (Ll.len l)))
 ((0 : Int) ≤ i ∧ (i < (Ll.len l) ∧ (i < (Ll.len l) ∧ (InK .i64 (s + (Ll.get l i 1)) ∧ (InK .i64 (i + (1 : Int)) ∧ (KK .normal [(.i .i64 (s + (Ll.get l i 1))), (.i .i64 (i + (1 : Int)))] [] []))))))
 (KK (.exit 0) [(.i .i64 s), (.i .i64 i)] [] [])) := by kernel_rfl
theorem sum_go (l : Ll) (i : Int) (s : Int) (i_0 : Int) (s_0 : Int) (r1 : i_0 = (0 : Int)) (r2 : s_0 = (0 : Int)) (T : Al (SV (stdA fsc true))) (M : Al (SO (stdA fsc true))) (KK : Ex → List (SV (stdA fsc true)) → List (SO (stdA fsc true)) → List Ll → Prop) (p1 : (holeE l) = (0 : Int)) (hI : 0 ≤ i ∧ i ≤ l.length ∧ s = risN l i.toNat) (hn : ∀ (i' : Int) (s' : Int), 0 ≤ i' ∧ i' ≤ l.length ∧ s' = risN l i'.toNat → (20 - i').toNat < (20 - i).toNat → KK .normal [.i .i64 s', .i .i64 i'] [] []) (hx1 : KK (.exit 0) [.i .i64 (risN l l.length), .i .i64 (Ll.len l)] [] []) :
    sCode Try.prog (sCall Try.prog 30 (spOf sp0) noLoop 20) ⟨3, false, noLoop 3⟩ 30 (false :: [false, true, false, true, true, true, true, true, true, true]) (bodyAt Try.prog 3 [false, true, false, true, true, true, true, true, true, true]) (hdL (bodyAt Try.prog 3 [false, true, false, true, true, true, true, true, true, true]) T M 102 3 [(7, .p 2 0)] [(1, .list 30 [.int .i64, .int .i64, .int .i64, .int .i64] true l), (2, .row 25 [.ls true 1 (Ll.len l)])] [(9, .i .i64 s), (10, .i .i64 i)] [] [] [] []) (outL 3 (tsOf [9, 10] []) [] [] [] KK) := by
  refine Eq.mpr (sum_eq i s l T M KK) ?_
  simp only [cond_iff, InK64]
  obtain ⟨i0, i1, rfl⟩ := hI
  have hl : Ll.len l = (l.length : Int) := rfl
  have p0 : HoleOK l := hole_of p1
  have hlen := p0.len
  by_cases h : i < Ll.len l
  · have ha := p0.at i0 (by omega)
    have hb := p0.b (n := i.toNat) (by omega)
    have e := risN_succ (l := l) i0
    have hN := hn (i + 1) (risN l i.toNat + Ll.get l i 1) ⟨by omega, by omega, by rw [show (i + 1).toNat = i.toNat + 1 by omega, e]⟩ (by omega)
    repeat' (first | apply And.intro | intro _)
    all_goals first | exact hN | omega | trivial
  · obtain rfl : i = l.length := by omega
    repeat' (first | apply And.intro | intro _)
    all_goals first | exact hx1 | omega | trivial
abbrev sumF {A : Go.Rx.Alg} : Code → Go.Rx.SS A → (Go.Rx.Ex → Go.Rx.SS A → A.R) → A.R := fun c_ s_ K_ => match s_.T.get 7, s_.H.get 1, s_.H.get 2, s_.T.get 9, s_.T.get 10 with
  | some (.p 2 0), some (.list t1 k1 true l), some (.row t2 [.ls true 1 m3]), some (.i .i64 s), some (.i .i64 i) => bif ((((Nat.beq s_.N 102 && Nat.beq s_.nx 3) && Nat.beq t1 30) && decide (k1 = [.int .i64, .int .i64, .int .i64, .int .i64])) && Nat.beq t2 25) then (A.need .eql m3 (A.len l) (A.need .eql (A.app 1 [l] []) (A.lit 0) (A.need .eql i (A.lit 0) (A.need .eql s (A.lit 0) (K_ (.exit 0) (Go.Rx.hdL c_ s_.T (Go.Rx.kills [] s_.H) 102 3 [(7, .p 2 0)] [(1, .list 30 [.int .i64, .int .i64, .int .i64, .int .i64] true l), (2, .row 25 [.ls true 1 (A.len l)])] [(9, .i .i64 (A.app 8 [l] [])), (10, .i .i64 (A.len l))] [] [] [] (Go.Rx.addW ([] ++ []) s_.wr))))))) else A.fail "frame of sum"
  | _, _, _, _, _ => A.fail "sum"
theorem sumF_ok {d : Nat} (hd : 100 ≤ d) : LoopOK (fs := fsc) (ov := true) Try.prog AW d 3 [false, true, false, true, true, true, true, true, true, true] false sumF := by
  intro m_ hm_ fn_ c0_ hfn_ hb_ c_ ro_ hro_ hc_ s_ K_ W_ ν_ S_ h_ hs_
  obtain rfl := body_of hfn_ hb_ hc_
  unfold sumF at h_
  split at h_
  · rename_i t1 k1 l_0 t2 m3_0 s_0_0 i_0_0 g0 g1 g2 g3 g4
    obtain ⟨l, rfl⟩ : ∃ q : Ll, q = l_0 := ⟨l_0, rfl⟩
    obtain ⟨m3, rfl⟩ : ∃ q : Int, q = m3_0 := ⟨m3_0, rfl⟩
    obtain ⟨s_0, rfl⟩ : ∃ q : Int, q = s_0_0 := ⟨s_0_0, rfl⟩
    obtain ⟨i_0, rfl⟩ : ∃ q : Int, q = i_0_0 := ⟨i_0_0, rfl⟩
    obtain ⟨T_, FN_, M_, snx_, wr_⟩ := s_
    have hN : ((((Nat.beq FN_ 102 && Nat.beq snx_ 3) && Nat.beq t1 30) && decide (k1 = [.int .i64, .int .i64, .int .i64, .int .i64])) && Nat.beq t2 25) = true := by
      cases hq : (((((Nat.beq FN_ 102 && Nat.beq snx_ 3) && Nat.beq t1 30) && decide (k1 = [.int .i64, .int .i64, .int .i64, .int .i64])) && Nat.beq t2 25) : Bool) with
      | true => rfl
      | false => (rw [hq] at h_; exact h_.elim)
    rw [hN, cond_true] at h_
    simp only [Bool.and_eq_true, beq_iff, decide_eq_true_eq] at hN
    obtain ⟨⟨⟨⟨rfl, rfl⟩, rfl⟩, rfl⟩, rfl⟩ := hN
    obtain ⟨q0, h_⟩ := h_
    obtain rfl : m3 = (Ll.len l) := q0
    obtain ⟨q1, h_⟩ := h_
    have q1 : (holeE l) = (0 : Int) := q1
    obtain ⟨q2, h_⟩ := h_
    have q2 : i_0 = (0 : Int) := q2
    obtain ⟨q3, h_⟩ := h_
    have q3 : s_0 = (0 : Int) := q3
    replace h_ : K_ (.exit 0) (hdL (bodyAt Try.prog 3 [false, true, false, true, true, true, true, true, true, true]) T_ (kills [] M_) 102 3 [(7, .p 2 0)] [(1, .list 30 [.int .i64, .int .i64, .int .i64, .int .i64] true l), (2, .row 25 [.ls true 1 (Ll.len l)])] [(9, .i .i64 (risN l l.length)), (10, .i .i64 (Ll.len l))] [] [] [] (addW ([] ++ []) wr_)) := h_
    have hx1 : K_ (.exit 0) (hdL (bodyAt Try.prog 3 [false, true, false, true, true, true, true, true, true, true]) T_ (kills [] M_) 102 3 [(7, .p 2 0)] [(1, .list 30 [.int .i64, .int .i64, .int .i64, .int .i64] true l), (2, .row 25 [.ls true 1 (Ll.len l)])] [(9, .i .i64 (risN l l.length)), (10, .i .i64 (Ll.len l))] [] [] [] (addW ([] ++ []) wr_)) := by
      have h2 := h_
      exact h2
    refine loop_ruleL (fs := fsc) (ov := true) (s := ⟨T_, 102, M_, 3, wr_⟩) (X := Int × Int) (B := []) (mv := []) (kt := [(7, .p 2 0)]) (kr := [(1, .list 30 [.int .i64, .int .i64, .int .i64, .int .i64] true l), (2, .row 25 [.ls true 1 (Ll.len l)])]) (ty := []) (x := (i_0, s_0))
      (Inv := (fun x_ : Int × Int => match x_ with | (i, s) => 0 ≤ i ∧ i ≤ l.length ∧ s = risN l i.toNat)) (μ := (fun x_ : Int × Int => match x_ with | (i, s) => (20 - i).toNat)) (ts := tsOf [9, 10] []) (sl := (fun x_ : Int × Int => match x_ with | (i, s) => [.i .i64 s, .i .i64 i])) (bl := (fun x_ : Int × Int => match x_ with | (i, s) => [])) (ll := (fun x_ : Int × Int => match x_ with | (i, s) => [])) (Q := fun e_ vs_ os_ hs_ => K_ e_ (hdL (bodyAt Try.prog 3 [false, true, false, true, true, true, true, true, true, true]) T_ (kills [] M_) 102 3 [(7, .p 2 0)] [(1, .list 30 [.int .i64, .int .i64, .int .i64, .int .i64] true l), (2, .row 25 [.ls true 1 (Ll.len l)])] (((tsOf [9, 10] []) e_).zip vs_) ([].zip os_) [] hs_ (addW ([] ++ []) wr_)))
      (L := LL) (U := 30) (cs := sCall Try.prog 30 (spOf sp0) noLoop 20) (call := CN Try.prog AW m_) (lp := ⟨3, false, noLoop 3⟩) (root := c0_) (p := [false, true, false, true, true, true, true, true, true, true])
      (show CallSOK _ _ from by
        have := sCall_ok (P := Try.prog) (d := m_ - 20) (U := 30) (lp := noLoop) (sp0_ok (fs := fsc) (ov := true) (d := m_ - 20)) (sp0_aw (fs := fsc) (ov := true)) (noLoop_ok) (by decide) rfl 20
        rwa [show 20 + (m_ - 20) = m_ by omega] at this) (ctx_of (g := 3) (rg := false) (at_ := noLoop 3) (fun p rg f h => by cases h) hfn_ hb_ hro_) (by decide) hc_
      (fun x o ho => by cases ho)
      (fun x hx => by cases hx) (fun x hx => by cases hx) (fun x hx => by cases hx)
      (fun x hx => by
        simp only [List.mem_cons, List.not_mem_nil, or_false] at hx
        rcases hx with rfl
        · exact g0) (fun x hx => by
        simp only [List.mem_cons, List.not_mem_nil, or_false] at hx
        rcases hx with rfl | rfl
        · exact ⟨g1, by simp⟩
        · exact ⟨g2, by simp⟩) ?_ (fun _ _ _ _ _ h => h) ?_ ?_ ?_ hs_
    · rintro ⟨i, s⟩ hI
      exact sum_go l i s i_0 s_0 q2 q3 T_ (kills [] M_) _ q1 hI (fun i' s' ha hb => ⟨(i', s'), ha, hb, rfl, rfl, rfl⟩) (⟨by simp [SO.mine], hx1⟩)
    · show 0 ≤ i_0 ∧ i_0 ≤ l.length ∧ s_0 = risN l i_0.toNat
      have p0 := hole_of q1
      exact ⟨by omega, by omega, by rw [q2, q3]; rfl⟩
    · show (20 - i_0).toNat < LL
      exact Nat.lt_of_le_of_lt (show _ ≤ 1000 by omega) (by decide)
    · exact ⟨⟨[.i .i64 s_0, .i .i64 i_0], [], [], [], by simp [gets, tsOf, g0, g1, g2, g3, g4], by simp [gets, g0, g1, g2, g3, g4], rfl, rfl, by simp [listsOf] <;> rfl⟩⟩
  · exact h_.elim
abbrev lpSum {A : Go.Rx.Alg} : Nat → Go.Rx.LoopS A := Go.Rx.lpOf [(3, [false, true, false, true, true, true, true, true, true, true], false, sumF)]
theorem lpSum_ok {d : Nat} (hd : 100 ≤ d) : LoopsAll (fs := fsc) (ov := true) Try.prog AW d lpSum := lpOf_ok fun x hx => by
  simp only [List.mem_cons, List.not_mem_nil, or_false] at hx
  rcases hx with rfl
  · exact sumF_ok (by omega)
abbrev spU3 {A : Go.Rx.Alg} : Go.Rx.SpL A := [(AW, Go.Rx.awakeS), (5, eannS), (7, em64S), (6, uevolS), (8, cemS)]
theorem spU3_ok {ov : Bool} {d : Nat} (hd : 1100 ≤ d) : SpOK (fs := fsc) (ov := ov) Try.prog AW d spU3 := SpOK.cons awake_ok (SpOK.cons (eannS_ok (by omega)) (SpOK.cons (em64S_ok (by omega)) (SpOK.cons (uevolS_ok (by omega)) (SpOK.cons (cemS_ok (by omega)) SpOK.nil))))
theorem spU3_aw {fs : Fs} {ov : Bool} : (spOf (A := stdA fs ov) spU3 AW).isSome = true := rfl
theorem rises_eq (v w : Int) (x : Ll) (KK : KS (stdA fsc true)) : sFunc Try.prog 30 (sCall Try.prog 30 (spOf spU3) lpSum 20) lpSum 3 [.ls false 0 (Ll.len x), .i .i64 v, .i .i64 w] (lsMem 0 [([.int .i64], x)]) 1 KK =
  ((Ll.len x) = (Ll.len x) ∧ ((Ll.len (annL x)) = (Ll.len (annL x)) ∧ (cond (decide ((holeV (annL x)) < (1 : Int)))
 (KK (.b false) (lsMem 0 [([.int .i64], x)]) 1 [])
 (InK .i64 ((holeV (annL x)) + (1 : Int)) ∧ ((1 : Int) ≤ ((holeV (annL x)) + (1 : Int)) ∧ (((holeV (annL x)) + (1 : Int)) ≤ (9223372036854775807 : Int) ∧ (InK .i64 ((holeV (annL x)) - (v % ((holeV (annL x)) + (1 : Int)))) ∧ (InK .i64 (((holeV (annL x)) - (v % ((holeV (annL x)) + (1 : Int)))) + (1 : Int)) ∧ ((1 : Int) ≤ (((holeV (annL x)) - (v % ((holeV (annL x)) + (1 : Int)))) + (1 : Int)) ∧ ((((holeV (annL x)) - (v % ((holeV (annL x)) + (1 : Int)))) + (1 : Int)) ≤ (9223372036854775807 : Int) ∧ (InK .i64 ((v % ((holeV (annL x)) + (1 : Int))) + (w % (((holeV (annL x)) - (v % ((holeV (annL x)) + (1 : Int)))) + (1 : Int)))) ∧ ((Ll.len (annL x)) = (Ll.len (annL x)) ∧ ((holeE (annL x)) = (0 : Int) ∧ ((0 : Int) = (0 : Int) ∧ ((0 : Int) = (0 : Int) ∧ ((Ll.len (annL x)) = (Ll.len (annL x)) ∧ ((Ll.len (annL x)) = (Ll.len (annL x)) ∧ ((Ll.len (annL x)) = (Ll.len (annL x)) ∧ (cond (decide ((cemE (annL x) (v % ((holeV (annL x)) + (1 : Int)))) = (0 : Int)))
 (cond (decide ((cemE (annL x) ((v % ((holeV (annL x)) + (1 : Int))) + (w % (((holeV (annL x)) - (v % ((holeV (annL x)) + (1 : Int)))) + (1 : Int))))) = (0 : Int)))
 (cond (decide ((cemE (annL x) (holeV (annL x))) = (0 : Int)))
 (cond (decide ((cemLo (annL x) ((v % ((holeV (annL x)) + (1 : Int))) + (w % (((holeV (annL x)) - (v % ((holeV (annL x)) + (1 : Int)))) + (1 : Int))))) ≥ (cemLo (annL x) (v % ((holeV (annL x)) + (1 : Int))))))
 (cond (decide ((cemHi (annL x) ((v % ((holeV (annL x)) + (1 : Int))) + (w % (((holeV (annL x)) - (v % ((holeV (annL x)) + (1 : Int)))) + (1 : Int))))) ≥ (cemHi (annL x) (v % ((holeV (annL x)) + (1 : Int))))))
 (cond ((decide ((cemLo (annL x) (holeV (annL x))) = (risN (annL x) (annL x).length))) && (decide ((cemHi (annL x) (holeV (annL x))) = (risN (annL x) (annL x).length))))
 (KK (.b true) (lsMem 0 [([.int .i64], x)]) 1 [])
 (KK (.b false) (lsMem 0 [([.int .i64], x)]) 1 []))
 (KK (.b false) (lsMem 0 [([.int .i64], x)]) 1 []))
 (KK (.b false) (lsMem 0 [([.int .i64], x)]) 1 []))
 (KK (.b false) (lsMem 0 [([.int .i64], x)]) 1 []))
 (KK (.b false) (lsMem 0 [([.int .i64], x)]) 1 []))
 (KK (.b false) (lsMem 0 [([.int .i64], x)]) 1 [])))))))))))))))))))) := by kernel_rfl
theorem rises_pure {m : Nat} (hm : 1200 ≤ m) {H : Hp} {nx : Nat} (v w : Int) {v_x : LV} {x : Ll} (hl_x : IsL H nx [.int .i64] x v_x) : Pure Try.prog AW m 3 [v_x, .i .i64 v, .i .i64 w] H nx (.b true) := by
  obtain ⟨ν, n1, n2, n3, n4⟩ := ls_in (fs := fsc) (ov := true) (l := [([.int .i64], x)]) (lvs := [v_x]) 0 (fun i x lv e1 e2 => by
    cases i with
    | zero => simp at e1 e2; subst e1 e2; exact hl_x
    | succ i =>
      simp at e1) rfl
  refine pure_of (n := 20) (d := m - 21) (U := 30) (fs := fsc) (ov := true) (spU3_ok (by omega)) spU3_aw (lpSum_ok (by omega)) (by decide) (by decide) (by omega) (args := [.ls false 0 (Ll.len x), .i .i64 v, .i .i64 w]) (M := lsMem 0 [([.int .i64], x)]) (snx := 1) ?_ (VSL.cons (n4 0 _ _ rfl rfl) (VSL.cons rfl (VSL.cons rfl rfl))) (hs_in n2 n3)
  rw [rises_eq]
  have hz := hole_zero (ann_ok x)
  have p0 := ann_ok x
  generalize annL x = l at *
  have hl : Ll.len l = (l.length : Int) := rfl
  have hlen := p0.len
  have eV : holeV l = volN l l.length := by unfold holeV; rw [if_pos hz]
  rw [eV]
  have hb := p0.b (n := l.length) (Nat.le_refl _)
  have hr := hgt_right p0
  have hm := hgt_mono p0
  have hR := right_of hr
  have ht := hgt_top p0
  have c1 : ∀ v, cemE l v = if ¬ holeE l = 0 then holeE l else if v < 0 ∨ volN l l.length < v then 2 else 0 := fun _ => rfl
  have c2 : ∀ v, cemLo l v = if holeE l = 0 ∧ 0 ≤ v ∧ v ≤ volN l l.length then valLo (hgtP l l.length) v else 0 := fun _ => rfl
  have c3 : ∀ v, cemHi l v = if holeE l = 0 ∧ 0 ≤ v ∧ v ≤ volN l l.length then valHi (hgtP l l.length) v else 0 := fun _ => rfl
  have m0 := Int.emod_nonneg v (show volN l l.length + 1 ≠ 0 by omega)
  have m1 := Int.emod_lt_of_pos v (show 0 < volN l l.length + 1 by omega)
  generalize v % (volN l l.length + 1) = a at *
  have m2 := Int.emod_nonneg w (show volN l l.length - a + 1 ≠ 0 by omega)
  have m3 := Int.emod_lt_of_pos w (show 0 < volN l l.length - a + 1 by omega)
  generalize w % (volN l l.length - a + 1) = b at *
  have mo := val_mono hR hm (show a ≤ a + b by omega)
  have ok : ∀ z, 0 ≤ z → z ≤ volN l l.length → cemE l z = 0 ∧ cemLo l z = valLo (hgtP l l.length) z ∧ cemHi l z = valHi (hgtP l l.length) z := fun z h0 h1 => by
    rw [c1, c2, c3, if_neg (fun h => h hz), if_neg (by omega), if_pos ⟨hz, h0, h1⟩, if_pos ⟨hz, h0, h1⟩]
    exact ⟨rfl, rfl, rfl⟩
  obtain ⟨d1, d2, d3⟩ := ok a m0 (by omega)
  obtain ⟨d4, d5, d6⟩ := ok (a + b) (by omega) (by omega)
  obtain ⟨d7, d8, d9⟩ := ok (volN l l.length) (by omega) (by omega)
  rw [ht.1] at d8
  rw [ht.2] at d9
  simp only [d1, d2, d3, d4, d5, d6, d7, d8, d9, hz]
  generalize valLo (hgtP l l.length) a = a1 at *
  generalize valHi (hgtP l l.length) a = a2 at *
  generalize valLo (hgtP l l.length) (a + b) = a3 at *
  generalize valHi (hgtP l l.length) (a + b) = a4 at *
  simp only [cond_iff, InK64, Bool.and_eq_true, Bool.or_eq_true, Bool.not_eq_true', decide_eq_true_eq, decide_eq_false_iff_not]
  repeat' (first | exact end_b rfl | apply And.intro | intro _)
  all_goals first | exact end_b rfl | omega | trivial
end Go.Proofs.Ytbhpegjaafinlaa
