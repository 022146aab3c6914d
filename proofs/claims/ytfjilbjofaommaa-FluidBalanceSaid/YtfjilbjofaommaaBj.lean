/-
  Layer 3: the law of the balance.
-/
import Derived.Test.YtfjilbjofaommaaBh
import Derived.Test.YtfjilbjofaommaaMd
import Derived.Test.YtfjilbjofaommaaMk
import Derived.Test.YtfjilbjofaommaaPz
set_option linter.unusedSimpArgs false
set_option linter.unusedVariables false
set_option maxRecDepth 100000
namespace Go.Proofs.Ytfjilbjofaommaa
open Go Go.Rx

noncomputable abbrev fsba : Fs where
  i := fun n ls xs => match n, ls, xs with | 1, [l], [] => holeE l | 2, [l], [] => holeV l | 3, [h, c], [] => colE h c | 6, [h, c], [w, v] => pmE h c w v | 7, [], [a, b] => a % b | 8, [c], [] => slN c c.length | _, _, _ => 0
  b := fun n ls xs => match n, ls, xs with | 30, [a, b], [] => sameL2 a b | 31, [c], [] => heldB c | _, _, _ => false
  l := fun n ls xs => match n, ls, xs with | 50, [l], [] => plainL l | 51, [x], [] => annL x | 52, [x], [v] => colL x v | 53, [h, c], [w, v] => pmA h c w v | 54, [h, c], [w, v] => pmO h c w v | _, _, _ => []
  rng := rngAt Try.prog
abbrev bannS {A : Go.Rx.Alg} : List (Go.Rx.SV A) → Go.Rx.SH A → Nat → Go.Rx.KS A → A.R := fun args_ M_ snx_ K_ => match args_ with
  | [x_x] => (match Go.Rx.lsArg M_ [.int .i64] x_x with | some (x, n_x) => (A.need .eql n_x (A.len x) ((M_.set snx_ (some (.list 42 [.int .i64, .int .i64, .int .i64, .int .i64] true (A.appL 51 [x] [])))).force fun M_ => K_ (.agg [.ls true snx_ (A.len (A.appL 51 [x] []))]) M_ (snx_ + 1) [])) | none => A.fail "bann")
  | _ => A.fail "bann"
theorem bannS_ok {ov : Bool} {d : Nat} (hd : 1000 ≤ d) : SpecOK (fs := fsba) (ov := ov) Try.prog AW d 9 bannS := by
  intro m_ hm_ args_ M_ snx_ K_ h_ ν_ largs_ H_ nx_ ha_ hM_
  unfold bannS at h_
  split at h_
  · rename_i x_x
    obtain ⟨v_x, r1, rfl, hx_x, rfl⟩ := ha_
    split at h_
    · rename_i x n_x q_x
      obtain ⟨e_x, h_⟩ := h_
      exact gives_got (annulus_gives (by omega) (lsArg_ok hM_ hx_x q_x e_x)) hM_ h_
    · exact h_.elim
  · exact h_.elim
abbrev bcolS {A : Go.Rx.Alg} : List (Go.Rx.SV A) → Go.Rx.SH A → Nat → Go.Rx.KS A → A.R := fun args_ M_ snx_ K_ => match args_ with
  | [.agg [x_h], x_x] => (match Go.Rx.lsArg M_ [.int .i64, .int .i64, .int .i64, .int .i64] x_h with | some (h, n_h) => (A.need .eql n_h (A.len h) (match Go.Rx.lsArg M_ [.int .i64] x_x with | some (x, n_x) => (A.need .eql n_x (A.len x) (A.need .eql (A.app 1 [h] []) (A.lit 0) ((M_.set snx_ (some (.list 32 [.int .i64, .int .i64] true (A.appL 52 [x] [(A.app 2 [h] [])])))).force fun M_ => K_ (.ls true snx_ (A.len (A.appL 52 [x] [(A.app 2 [h] [])]))) M_ (snx_ + 1) []))) | none => A.fail "bcol")) | none => A.fail "bcol")
  | _ => A.fail "bcol"
theorem bcolS_ok {ov : Bool} {d : Nat} (hd : 3000 ≤ d) : SpecOK (fs := fsba) (ov := ov) Try.prog AW d 10 bcolS := by
  intro m_ hm_ args_ M_ snx_ K_ h_ ν_ largs_ H_ nx_ ha_ hM_
  unfold bcolS at h_
  split at h_
  · rename_i x_h x_x
    obtain ⟨y1, r1, rfl, ⟨l1, rfl, ⟨v_h, r2, rfl, hx_h, rfl⟩⟩, ⟨v_x, r3, rfl, hx_x, rfl⟩⟩ := ha_
    split at h_
    · rename_i h n_h q_h
      obtain ⟨e_h, h_⟩ := h_
      split at h_
      · rename_i x n_x q_x
        obtain ⟨e_x, h_⟩ := h_
        obtain ⟨p1, h_⟩ := h_
        exact gives_got (column_gives (by omega) (lsArg_ok hM_ hx_h q_h e_h) (lsArg_ok hM_ hx_x q_x e_x) p1) hM_ h_
      · exact h_.elim
    · exact h_.elim
  · exact h_.elim
abbrev bheldS {A : Go.Rx.Alg} : List (Go.Rx.SV A) → Go.Rx.SH A → Nat → Go.Rx.KS A → A.R := fun args_ M_ snx_ K_ => match args_ with
  | [x_c] => (match Go.Rx.lsArg M_ [.int .i64, .int .i64] x_c with | some (c, n_c) => (A.need .eql n_c (A.len c) (A.br (A.appB 31 [c] []) (fun _ => (K_ (.i .i64 (A.app 8 [c] [])) M_ snx_ [])) (fun _ => A.fail "pre"))) | none => A.fail "bheld")
  | _ => A.fail "bheld"
theorem bheldS_ok {ov : Bool} {d : Nat} (hd : 3000 ≤ d) : SpecOK (fs := fsba) (ov := ov) Try.prog AW d 11 bheldS := by
  intro m_ hm_ args_ M_ snx_ K_ h_ ν_ largs_ H_ nx_ ha_ hM_
  unfold bheldS at h_
  split at h_
  · rename_i x_c
    obtain ⟨v_c, r1, rfl, hx_c, rfl⟩ := ha_
    split at h_
    · rename_i c n_c q_c
      obtain ⟨e_c, h_⟩ := h_
      obtain ⟨p1, h_⟩ := br_pre (fs := fsba) (ov := ov) h_
      have p1 : (heldB c) = true := p1
      exact pure_got (held_pure (by omega) (lsArg_ok hM_ hx_c q_c e_c) p1) hM_ (v := .i .i64 _) rfl h_
    · exact h_.elim
  · exact h_.elim
abbrev bm64S {A : Go.Rx.Alg} : List (Go.Rx.SV A) → Go.Rx.SH A → Nat → Go.Rx.KS A → A.R := fun args_ M_ snx_ K_ => match args_ with
  | [.i .i64 a, .i .i64 b] => (A.need .leq (A.lit 1) b (A.need .leq b (A.lit 9223372036854775807) (K_ (.i .i64 (A.app 7 [] [a, b])) M_ snx_ [])))
  | _ => A.fail "bm64"
theorem bm64S_ok {ov : Bool} {d : Nat} (hd : 1000 ≤ d) : SpecOK (fs := fsba) (ov := ov) Try.prog AW d 12 bm64S := by
  intro m_ hm_ args_ M_ snx_ K_ h_ ν_ largs_ H_ nx_ ha_ hM_
  unfold bm64S at h_
  split at h_
  · rename_i a b
    obtain ⟨y1, r1, rfl, rfl, ⟨y2, r2, rfl, rfl, rfl⟩⟩ := ha_
    obtain ⟨p1, h_⟩ := h_
    obtain ⟨p2, h_⟩ := h_
    exact pure_got (m64_pure (by omega) a b p1 p2) hM_ (v := .i .i64 _) rfl h_
  · exact h_.elim
abbrev bchkS {A : Go.Rx.Alg} : List (Go.Rx.SV A) → Go.Rx.SH A → Nat → Go.Rx.KS A → A.R := fun args_ M_ snx_ K_ => match args_ with
  | [.agg [x_h], x_c] => (match Go.Rx.lsArg M_ [.int .i64, .int .i64, .int .i64, .int .i64] x_h with | some (h, n_h) => (A.need .eql n_h (A.len h) (match Go.Rx.lsArg M_ [.int .i64, .int .i64] x_c with | some (c, n_c) => (A.need .eql n_c (A.len c) (K_ (.i .i64 (A.app 3 [h, c] [])) M_ snx_ [])) | none => A.fail "bchk")) | none => A.fail "bchk")
  | _ => A.fail "bchk"
theorem bchkS_ok {ov : Bool} {d : Nat} (hd : 3000 ≤ d) : SpecOK (fs := fsba) (ov := ov) Try.prog AW d 18 bchkS := by
  intro m_ hm_ args_ M_ snx_ K_ h_ ν_ largs_ H_ nx_ ha_ hM_
  unfold bchkS at h_
  split at h_
  · rename_i x_h x_c
    obtain ⟨y1, r1, rfl, ⟨l1, rfl, ⟨v_h, r2, rfl, hx_h, rfl⟩⟩, ⟨v_c, r3, rfl, hx_c, rfl⟩⟩ := ha_
    split at h_
    · rename_i h n_h q_h
      obtain ⟨e_h, h_⟩ := h_
      split at h_
      · rename_i c n_c q_c
        obtain ⟨e_c, h_⟩ := h_
        exact pure_got (col_pure (by omega) (lsArg_ok hM_ hx_h q_h e_h) (lsArg_ok hM_ hx_c q_c e_c)) hM_ (v := .i .i64 _) rfl h_
      · exact h_.elim
    · exact h_.elim
  · exact h_.elim
abbrev bplainS {A : Go.Rx.Alg} : List (Go.Rx.SV A) → Go.Rx.SH A → Nat → Go.Rx.KS A → A.R := fun args_ M_ snx_ K_ => match args_ with
  | [x_l] => (match Go.Rx.lsArg M_ [.int .i64, .int .i64] x_l with | some (l, n_l) => (A.need .eql n_l (A.len l) (A.need .leq (A.len l) (A.lit 1000) ((M_.set snx_ (some (.list 32 [.int .i64, .int .i64] true (A.appL 50 [l] [])))).force fun M_ => K_ (.ls true snx_ (A.len (A.appL 50 [l] []))) M_ (snx_ + 1) []))) | none => A.fail "bplain")
  | _ => A.fail "bplain"
theorem bplainS_ok {ov : Bool} {d : Nat} (hd : 1000 ≤ d) : SpecOK (fs := fsba) (ov := ov) Try.prog AW d 19 bplainS := by
  intro m_ hm_ args_ M_ snx_ K_ h_ ν_ largs_ H_ nx_ ha_ hM_
  unfold bplainS at h_
  split at h_
  · rename_i x_l
    obtain ⟨v_l, r1, rfl, hx_l, rfl⟩ := ha_
    split at h_
    · rename_i l n_l q_l
      obtain ⟨e_l, h_⟩ := h_
      obtain ⟨p1, h_⟩ := h_
      exact gives_got (plaF_gives (by omega) (lsArg_ok hM_ hx_l q_l e_l) p1) hM_ h_
    · exact h_.elim
  · exact h_.elim
abbrev bpumpS {A : Go.Rx.Alg} : List (Go.Rx.SV A) → Go.Rx.SH A → Nat → Go.Rx.KS A → A.R := fun args_ M_ snx_ K_ => match args_ with
  | [.agg [x_h], x_c, .agg [.i .i64 w, .i .i64 v]] => (match Go.Rx.lsArg M_ [.int .i64, .int .i64, .int .i64, .int .i64] x_h with | some (h, n_h) => (A.need .eql n_h (A.len h) (match Go.Rx.lsArg M_ [.int .i64, .int .i64] x_c with | some (c, n_c) => (A.need .eql n_c (A.len c) ((M_.set (snx_) (some (.list 32 [.int .i64, .int .i64] true (A.appL 53 [h, c] [w, v])))).force fun M_ => ((M_.set (snx_ + 1) (some (.list 32 [.int .i64, .int .i64] true (A.appL 54 [h, c] [w, v])))).force fun M_ => (K_ (.tup [.ls true (snx_ + 0) (A.len (A.appL 53 [h, c] [w, v])), .ls true (snx_ + 1) (A.len (A.appL 54 [h, c] [w, v])), .i .i64 (A.app 6 [h, c] [w, v])]) M_ (snx_ + 2 + 1) [])))) | none => A.fail "bpump")) | none => A.fail "bpump")
  | _ => A.fail "bpump"
theorem bpumpS_ok {ov : Bool} {d : Nat} (hd : 4000 ≤ d) : SpecOK (fs := fsba) (ov := ov) Try.prog AW d 15 bpumpS := by
  intro m_ hm_ args_ M_ snx_ K_ h_ ν_ largs_ H_ nx_ ha_ hM_
  unfold bpumpS at h_
  split at h_
  · rename_i x_h x_c w v
    obtain ⟨y1, r1, rfl, ⟨l1, rfl, ⟨v_h, r2, rfl, hx_h, rfl⟩⟩, ⟨v_c, r3, rfl, hx_c, ⟨y4, r4, rfl, ⟨l4, rfl, ⟨y5, r5, rfl, rfl, ⟨y6, r6, rfl, rfl, rfl⟩⟩⟩, rfl⟩⟩⟩ := ha_
    split at h_
    · rename_i h n_h q_h
      obtain ⟨e_h, h_⟩ := h_
      split at h_
      · rename_i c n_c q_c
        obtain ⟨e_c, h_⟩ := h_
        exact gv_got (pump_gives (by omega) w v (lsArg_ok hM_ hx_h q_h e_h) (lsArg_ok hM_ hx_c q_c e_c)) hM_ h_
      · exact h_.elim
    · exact h_.elim
  · exact h_.elim
abbrev bsameS {A : Go.Rx.Alg} : List (Go.Rx.SV A) → Go.Rx.SH A → Nat → Go.Rx.KS A → A.R := fun args_ M_ snx_ K_ => match args_ with
  | [x_a, x_b] => (match Go.Rx.lsArg M_ [.int .i64, .int .i64] x_a with | some (a, n_a) => (A.need .eql n_a (A.len a) (match Go.Rx.lsArg M_ [.int .i64, .int .i64] x_b with | some (b, n_b) => (A.need .eql n_b (A.len b) (A.need .leq (A.len a) (A.lit 1000000) (K_ (.b (A.appB 30 [a, b] [])) M_ snx_ []))) | none => A.fail "bsame")) | none => A.fail "bsame")
  | _ => A.fail "bsame"
theorem bsameS_ok {ov : Bool} {d : Nat} (hd : 1000 ≤ d) : SpecOK (fs := fsba) (ov := ov) Try.prog AW d 17 bsameS := by
  intro m_ hm_ args_ M_ snx_ K_ h_ ν_ largs_ H_ nx_ ha_ hM_
  unfold bsameS at h_
  split at h_
  · rename_i x_a x_b
    obtain ⟨v_a, r1, rfl, hx_a, ⟨v_b, r2, rfl, hx_b, rfl⟩⟩ := ha_
    split at h_
    · rename_i a n_a q_a
      obtain ⟨e_a, h_⟩ := h_
      split at h_
      · rename_i b n_b q_b
        obtain ⟨e_b, h_⟩ := h_
        obtain ⟨p1, h_⟩ := h_
        exact pure_got (sslug_pure (by omega) (lsArg_ok hM_ hx_a q_a e_a) (lsArg_ok hM_ hx_b q_b e_b) p1) hM_ (v := .b _) rfl h_
      · exact h_.elim
    · exact h_.elim
  · exact h_.elim
abbrev spBa {A : Go.Rx.Alg} : Go.Rx.SpL A := [(AW, Go.Rx.awakeS), (9, bannS), (10, bcolS), (11, bheldS), (12, bm64S), (18, bchkS), (19, bplainS), (15, bpumpS), (17, bsameS)]
theorem spBa_ok {ov : Bool} {d : Nat} (hd : 4000 ≤ d) : SpOK (fs := fsba) (ov := ov) Try.prog AW d spBa := SpOK.cons awake_ok (SpOK.cons (bannS_ok (by omega)) (SpOK.cons (bcolS_ok (by omega)) (SpOK.cons (bheldS_ok (by omega)) (SpOK.cons (bm64S_ok (by omega)) (SpOK.cons (bchkS_ok (by omega)) (SpOK.cons (bplainS_ok (by omega)) (SpOK.cons (bpumpS_ok (by omega)) (SpOK.cons (bsameS_ok (by omega)) SpOK.nil))))))))
theorem spBa_aw {fs : Fs} {ov : Bool} : (spOf (A := stdA fs ov) spBa AW).isSome = true := rfl
theorem balance_eq (w a b : Int) (x y : Ll) (KK : KS (stdA fsba true)) : sFunc Try.prog 30 (sCall Try.prog 30 (spOf spBa) noLoop 20) noLoop 6 [.ls false 0 (Ll.len x), .ls false 1 (Ll.len y), .i .i64 w, .i .i64 a, .i .i64 b] (lsMem 0 [([.int .i64], x), ([.int .i64], y)]) 2 KK =
  ((Ll.len x) = (Ll.len x) ∧ ((Ll.len (annL x)) = (Ll.len (annL x)) ∧ ((Ll.len y) = (Ll.len y) ∧ ((holeE (annL x)) = (0 : Int) ∧ ((Ll.len (colL y (holeV (annL x)))) = (Ll.len (colL y (holeV (annL x)))) ∧ (cond (heldB (colL y (holeV (annL x))))
 ((1 : Int) ≤ (10000 : Int) ∧ ((10000 : Int) ≤ (9223372036854775807 : Int) ∧ (InK .i64 ((9000 : Int) + (w % (10000 : Int))) ∧ ((1 : Int) ≤ (slN (colL y (holeV (annL x))) (colL y (holeV (annL x))).length) ∧ ((slN (colL y (holeV (annL x))) (colL y (holeV (annL x))).length) ≤ (9223372036854775807 : Int) ∧ (InK .i64 ((1 : Int) + (a % (slN (colL y (holeV (annL x))) (colL y (holeV (annL x))).length))) ∧ ((1 : Int) ≤ (slN (colL y (holeV (annL x))) (colL y (holeV (annL x))).length) ∧ ((slN (colL y (holeV (annL x))) (colL y (holeV (annL x))).length) ≤ (9223372036854775807 : Int) ∧ (InK .i64 ((1 : Int) + (b % (slN (colL y (holeV (annL x))) (colL y (holeV (annL x))).length))) ∧ ((Ll.len (annL x)) = (Ll.len (annL x)) ∧ ((Ll.len (colL y (holeV (annL x)))) = (Ll.len (colL y (holeV (annL x)))) ∧ (cond (decide ((pmE (annL x) (colL y (holeV (annL x))) ((9000 : Int) + (w % (10000 : Int))) ((1 : Int) + (a % (slN (colL y (holeV (annL x))) (colL y (holeV (annL x))).length)))) ≠ (0 : Int)))
 (KK (.b false) (lsMem 0 [([.int .i64], x), ([.int .i64], y)]) 2 [])
 ((Ll.len (pmO (annL x) (colL y (holeV (annL x))) ((9000 : Int) + (w % (10000 : Int))) ((1 : Int) + (a % (slN (colL y (holeV (annL x))) (colL y (holeV (annL x))).length))))) = (Ll.len (pmO (annL x) (colL y (holeV (annL x))) ((9000 : Int) + (w % (10000 : Int))) ((1 : Int) + (a % (slN (colL y (holeV (annL x))) (colL y (holeV (annL x))).length))))) ∧ (cond (heldB (pmO (annL x) (colL y (holeV (annL x))) ((9000 : Int) + (w % (10000 : Int))) ((1 : Int) + (a % (slN (colL y (holeV (annL x))) (colL y (holeV (annL x))).length)))))
 (cond (decide ((slN (pmO (annL x) (colL y (holeV (annL x))) ((9000 : Int) + (w % (10000 : Int))) ((1 : Int) + (a % (slN (colL y (holeV (annL x))) (colL y (holeV (annL x))).length)))) (pmO (annL x) (colL y (holeV (annL x))) ((9000 : Int) + (w % (10000 : Int))) ((1 : Int) + (a % (slN (colL y (holeV (annL x))) (colL y (holeV (annL x))).length)))).length) ≠ ((1 : Int) + (a % (slN (colL y (holeV (annL x))) (colL y (holeV (annL x))).length)))))
 (KK (.b false) (lsMem 0 [([.int .i64], x), ([.int .i64], y)]) 2 [])
 ((Ll.len (annL x)) = (Ll.len (annL x)) ∧ ((Ll.len (pmA (annL x) (colL y (holeV (annL x))) ((9000 : Int) + (w % (10000 : Int))) ((1 : Int) + (a % (slN (colL y (holeV (annL x))) (colL y (holeV (annL x))).length))))) = (Ll.len (pmA (annL x) (colL y (holeV (annL x))) ((9000 : Int) + (w % (10000 : Int))) ((1 : Int) + (a % (slN (colL y (holeV (annL x))) (colL y (holeV (annL x))).length))))) ∧ (cond (decide ((colE (annL x) (pmA (annL x) (colL y (holeV (annL x))) ((9000 : Int) + (w % (10000 : Int))) ((1 : Int) + (a % (slN (colL y (holeV (annL x))) (colL y (holeV (annL x))).length))))) ≠ (0 : Int)))
 (KK (.b false) (lsMem 0 [([.int .i64], x), ([.int .i64], y)]) 2 [])
 ((Ll.len (pmA (annL x) (colL y (holeV (annL x))) ((9000 : Int) + (w % (10000 : Int))) ((1 : Int) + (a % (slN (colL y (holeV (annL x))) (colL y (holeV (annL x))).length))))) = (Ll.len (pmA (annL x) (colL y (holeV (annL x))) ((9000 : Int) + (w % (10000 : Int))) ((1 : Int) + (a % (slN (colL y (holeV (annL x))) (colL y (holeV (annL x))).length))))) ∧ ((Ll.len (pmA (annL x) (colL y (holeV (annL x))) ((9000 : Int) + (w % (10000 : Int))) ((1 : Int) + (a % (slN (colL y (holeV (annL x))) (colL y (holeV (annL x))).length))))) ≤ (1000 : Int) ∧ ((Ll.len (plainL (pmA (annL x) (colL y (holeV (annL x))) ((9000 : Int) + (w % (10000 : Int))) ((1 : Int) + (a % (slN (colL y (holeV (annL x))) (colL y (holeV (annL x))).length)))))) = (Ll.len (plainL (pmA (annL x) (colL y (holeV (annL x))) ((9000 : Int) + (w % (10000 : Int))) ((1 : Int) + (a % (slN (colL y (holeV (annL x))) (colL y (holeV (annL x))).length)))))) ∧ ((Ll.len (pmA (annL x) (colL y (holeV (annL x))) ((9000 : Int) + (w % (10000 : Int))) ((1 : Int) + (a % (slN (colL y (holeV (annL x))) (colL y (holeV (annL x))).length))))) = (Ll.len (pmA (annL x) (colL y (holeV (annL x))) ((9000 : Int) + (w % (10000 : Int))) ((1 : Int) + (a % (slN (colL y (holeV (annL x))) (colL y (holeV (annL x))).length))))) ∧ ((Ll.len (plainL (pmA (annL x) (colL y (holeV (annL x))) ((9000 : Int) + (w % (10000 : Int))) ((1 : Int) + (a % (slN (colL y (holeV (annL x))) (colL y (holeV (annL x))).length)))))) ≤ (1000000 : Int) ∧ (cond (!(sameL2 (plainL (pmA (annL x) (colL y (holeV (annL x))) ((9000 : Int) + (w % (10000 : Int))) ((1 : Int) + (a % (slN (colL y (holeV (annL x))) (colL y (holeV (annL x))).length))))) (pmA (annL x) (colL y (holeV (annL x))) ((9000 : Int) + (w % (10000 : Int))) ((1 : Int) + (a % (slN (colL y (holeV (annL x))) (colL y (holeV (annL x))).length))))))
 (KK (.b false) (lsMem 0 [([.int .i64], x), ([.int .i64], y)]) 2 [])
 ((Ll.len (pmO (annL x) (colL y (holeV (annL x))) ((9000 : Int) + (w % (10000 : Int))) ((1 : Int) + (a % (slN (colL y (holeV (annL x))) (colL y (holeV (annL x))).length))))) = (Ll.len (pmO (annL x) (colL y (holeV (annL x))) ((9000 : Int) + (w % (10000 : Int))) ((1 : Int) + (a % (slN (colL y (holeV (annL x))) (colL y (holeV (annL x))).length))))) ∧ ((Ll.len (pmO (annL x) (colL y (holeV (annL x))) ((9000 : Int) + (w % (10000 : Int))) ((1 : Int) + (a % (slN (colL y (holeV (annL x))) (colL y (holeV (annL x))).length))))) ≤ (1000 : Int) ∧ ((Ll.len (plainL (pmO (annL x) (colL y (holeV (annL x))) ((9000 : Int) + (w % (10000 : Int))) ((1 : Int) + (a % (slN (colL y (holeV (annL x))) (colL y (holeV (annL x))).length)))))) = (Ll.len (plainL (pmO (annL x) (colL y (holeV (annL x))) ((9000 : Int) + (w % (10000 : Int))) ((1 : Int) + (a % (slN (colL y (holeV (annL x))) (colL y (holeV (annL x))).length)))))) ∧ ((Ll.len (pmO (annL x) (colL y (holeV (annL x))) ((9000 : Int) + (w % (10000 : Int))) ((1 : Int) + (a % (slN (colL y (holeV (annL x))) (colL y (holeV (annL x))).length))))) = (Ll.len (pmO (annL x) (colL y (holeV (annL x))) ((9000 : Int) + (w % (10000 : Int))) ((1 : Int) + (a % (slN (colL y (holeV (annL x))) (colL y (holeV (annL x))).length))))) ∧ ((Ll.len (plainL (pmO (annL x) (colL y (holeV (annL x))) ((9000 : Int) + (w % (10000 : Int))) ((1 : Int) + (a % (slN (colL y (holeV (annL x))) (colL y (holeV (annL x))).length)))))) ≤ (1000000 : Int) ∧ (cond (!(sameL2 (plainL (pmO (annL x) (colL y (holeV (annL x))) ((9000 : Int) + (w % (10000 : Int))) ((1 : Int) + (a % (slN (colL y (holeV (annL x))) (colL y (holeV (annL x))).length))))) (pmO (annL x) (colL y (holeV (annL x))) ((9000 : Int) + (w % (10000 : Int))) ((1 : Int) + (a % (slN (colL y (holeV (annL x))) (colL y (holeV (annL x))).length))))))
 (KK (.b false) (lsMem 0 [([.int .i64], x), ([.int .i64], y)]) 2 [])
 (cond (decide ((Ll.len (pmA (annL x) (colL y (holeV (annL x))) ((9000 : Int) + (w % (10000 : Int))) ((1 : Int) + (a % (slN (colL y (holeV (annL x))) (colL y (holeV (annL x))).length))))) = (0 : Int)))
 (KK (.b false) (lsMem 0 [([.int .i64], x), ([.int .i64], y)]) 2 [])
 ((0 : Int) ≤ (0 : Int) ∧ ((0 : Int) < (Ll.len (pmA (annL x) (colL y (holeV (annL x))) ((9000 : Int) + (w % (10000 : Int))) ((1 : Int) + (a % (slN (colL y (holeV (annL x))) (colL y (holeV (annL x))).length))))) ∧ ((0 : Int) < (Ll.len (pmA (annL x) (colL y (holeV (annL x))) ((9000 : Int) + (w % (10000 : Int))) ((1 : Int) + (a % (slN (colL y (holeV (annL x))) (colL y (holeV (annL x))).length))))) ∧ (cond (decide ((Ll.get (pmA (annL x) (colL y (holeV (annL x))) ((9000 : Int) + (w % (10000 : Int))) ((1 : Int) + (a % (slN (colL y (holeV (annL x))) (colL y (holeV (annL x))).length)))) (0 : Int) 0) ≠ ((9000 : Int) + (w % (10000 : Int)))))
 (KK (.b false) (lsMem 0 [([.int .i64], x), ([.int .i64], y)]) 2 [])
 ((0 : Int) ≤ (0 : Int) ∧ ((0 : Int) < (Ll.len (pmA (annL x) (colL y (holeV (annL x))) ((9000 : Int) + (w % (10000 : Int))) ((1 : Int) + (a % (slN (colL y (holeV (annL x))) (colL y (holeV (annL x))).length))))) ∧ ((0 : Int) < (Ll.len (pmA (annL x) (colL y (holeV (annL x))) ((9000 : Int) + (w % (10000 : Int))) ((1 : Int) + (a % (slN (colL y (holeV (annL x))) (colL y (holeV (annL x))).length))))) ∧ (cond (decide ((Ll.get (pmA (annL x) (colL y (holeV (annL x))) ((9000 : Int) + (w % (10000 : Int))) ((1 : Int) + (a % (slN (colL y (holeV (annL x))) (colL y (holeV (annL x))).length)))) (0 : Int) 1) < ((1 : Int) + (a % (slN (colL y (holeV (annL x))) (colL y (holeV (annL x))).length)))))
 (KK (.b false) (lsMem 0 [([.int .i64], x), ([.int .i64], y)]) 2 [])
 ((Ll.len (annL x)) = (Ll.len (annL x)) ∧ ((Ll.len (pmA (annL x) (colL y (holeV (annL x))) ((9000 : Int) + (w % (10000 : Int))) ((1 : Int) + (a % (slN (colL y (holeV (annL x))) (colL y (holeV (annL x))).length))))) = (Ll.len (pmA (annL x) (colL y (holeV (annL x))) ((9000 : Int) + (w % (10000 : Int))) ((1 : Int) + (a % (slN (colL y (holeV (annL x))) (colL y (holeV (annL x))).length))))) ∧ ((Ll.len (annL x)) = (Ll.len (annL x)) ∧ ((Ll.len (colL y (holeV (annL x)))) = (Ll.len (colL y (holeV (annL x)))) ∧ (cond (decide ((pmE (annL x) (pmA (annL x) (colL y (holeV (annL x))) ((9000 : Int) + (w % (10000 : Int))) ((1 : Int) + (a % (slN (colL y (holeV (annL x))) (colL y (holeV (annL x))).length)))) ((9000 : Int) + (w % (10000 : Int))) ((1 : Int) + (b % (slN (colL y (holeV (annL x))) (colL y (holeV (annL x))).length)))) ≠ (0 : Int)))
 (KK (.b false) (lsMem 0 [([.int .i64], x), ([.int .i64], y)]) 2 [])
 (cond (decide ((pmE (annL x) (colL y (holeV (annL x))) ((9000 : Int) + (w % (10000 : Int))) ((1 : Int) + (b % (slN (colL y (holeV (annL x))) (colL y (holeV (annL x))).length)))) ≠ (0 : Int)))
 (KK (.b false) (lsMem 0 [([.int .i64], x), ([.int .i64], y)]) 2 [])
 ((Ll.len (annL x)) = (Ll.len (annL x)) ∧ ((Ll.len (pmA (annL x) (colL y (holeV (annL x))) ((9000 : Int) + (w % (10000 : Int))) ((1 : Int) + (b % (slN (colL y (holeV (annL x))) (colL y (holeV (annL x))).length))))) = (Ll.len (pmA (annL x) (colL y (holeV (annL x))) ((9000 : Int) + (w % (10000 : Int))) ((1 : Int) + (b % (slN (colL y (holeV (annL x))) (colL y (holeV (annL x))).length))))) ∧ (cond (decide ((pmE (annL x) (pmA (annL x) (colL y (holeV (annL x))) ((9000 : Int) + (w % (10000 : Int))) ((1 : Int) + (b % (slN (colL y (holeV (annL x))) (colL y (holeV (annL x))).length)))) ((9000 : Int) + (w % (10000 : Int))) ((1 : Int) + (a % (slN (colL y (holeV (annL x))) (colL y (holeV (annL x))).length)))) = (0 : Int)))
 ((Ll.len (pmA (annL x) (pmA (annL x) (colL y (holeV (annL x))) ((9000 : Int) + (w % (10000 : Int))) ((1 : Int) + (a % (slN (colL y (holeV (annL x))) (colL y (holeV (annL x))).length)))) ((9000 : Int) + (w % (10000 : Int))) ((1 : Int) + (b % (slN (colL y (holeV (annL x))) (colL y (holeV (annL x))).length))))) = (Ll.len (pmA (annL x) (pmA (annL x) (colL y (holeV (annL x))) ((9000 : Int) + (w % (10000 : Int))) ((1 : Int) + (a % (slN (colL y (holeV (annL x))) (colL y (holeV (annL x))).length)))) ((9000 : Int) + (w % (10000 : Int))) ((1 : Int) + (b % (slN (colL y (holeV (annL x))) (colL y (holeV (annL x))).length))))) ∧ ((Ll.len (pmA (annL x) (pmA (annL x) (colL y (holeV (annL x))) ((9000 : Int) + (w % (10000 : Int))) ((1 : Int) + (b % (slN (colL y (holeV (annL x))) (colL y (holeV (annL x))).length)))) ((9000 : Int) + (w % (10000 : Int))) ((1 : Int) + (a % (slN (colL y (holeV (annL x))) (colL y (holeV (annL x))).length))))) = (Ll.len (pmA (annL x) (pmA (annL x) (colL y (holeV (annL x))) ((9000 : Int) + (w % (10000 : Int))) ((1 : Int) + (b % (slN (colL y (holeV (annL x))) (colL y (holeV (annL x))).length)))) ((9000 : Int) + (w % (10000 : Int))) ((1 : Int) + (a % (slN (colL y (holeV (annL x))) (colL y (holeV (annL x))).length))))) ∧ ((Ll.len (pmA (annL x) (pmA (annL x) (colL y (holeV (annL x))) ((9000 : Int) + (w % (10000 : Int))) ((1 : Int) + (a % (slN (colL y (holeV (annL x))) (colL y (holeV (annL x))).length)))) ((9000 : Int) + (w % (10000 : Int))) ((1 : Int) + (b % (slN (colL y (holeV (annL x))) (colL y (holeV (annL x))).length))))) ≤ (1000000 : Int) ∧ (cond (sameL2 (pmA (annL x) (pmA (annL x) (colL y (holeV (annL x))) ((9000 : Int) + (w % (10000 : Int))) ((1 : Int) + (a % (slN (colL y (holeV (annL x))) (colL y (holeV (annL x))).length)))) ((9000 : Int) + (w % (10000 : Int))) ((1 : Int) + (b % (slN (colL y (holeV (annL x))) (colL y (holeV (annL x))).length)))) (pmA (annL x) (pmA (annL x) (colL y (holeV (annL x))) ((9000 : Int) + (w % (10000 : Int))) ((1 : Int) + (b % (slN (colL y (holeV (annL x))) (colL y (holeV (annL x))).length)))) ((9000 : Int) + (w % (10000 : Int))) ((1 : Int) + (a % (slN (colL y (holeV (annL x))) (colL y (holeV (annL x))).length)))))
 (KK (.b true) (lsMem 0 [([.int .i64], x), ([.int .i64], y)]) 2 [])
 (KK (.b false) (lsMem 0 [([.int .i64], x), ([.int .i64], y)]) 2 [])))))
 (KK (.b false) (lsMem 0 [([.int .i64], x), ([.int .i64], y)]) 2 [])))))))))))))))))))))))))))))))))))
 False))))))))))))))
 False)))))) := by kernel_rfl
theorem balance_pure {m : Nat} (hm : 4100 ≤ m) {H : Hp} {nx : Nat} (w a b : Int) {v_x : LV} {x : Ll} (hl_x : IsL H nx [.int .i64] x v_x) {v_y : LV} {y : Ll} (hl_y : IsL H nx [.int .i64] y v_y) : Pure Try.prog AW m 6 [v_x, v_y, .i .i64 w, .i .i64 a, .i .i64 b] H nx (.b true) := by
  obtain ⟨ν, n1, n2, n3, n4⟩ := ls_in (fs := fsba) (ov := true) (l := [([.int .i64], x), ([.int .i64], y)]) (lvs := [v_x, v_y]) 0 (fun i x lv e1 e2 => by
    cases i with
    | zero => simp at e1 e2; subst e1 e2; exact hl_x
    | succ i =>
      cases i with
      | zero => simp at e1 e2; subst e1 e2; exact hl_y
      | succ i =>
        simp at e1) rfl
  refine pure_of (n := 20) (d := m - 21) (U := 30) (fs := fsba) (ov := true) (spBa_ok (by omega)) spBa_aw noLoop_ok (by decide) (by decide) (by omega) (args := [.ls false 0 (Ll.len x), .ls false 1 (Ll.len y), .i .i64 w, .i .i64 a, .i .i64 b]) (M := lsMem 0 [([.int .i64], x), ([.int .i64], y)]) (snx := 2) ?_ (VSL.cons (n4 0 _ _ rfl rfl) (VSL.cons (n4 1 _ _ rfl rfl) (VSL.cons rfl (VSL.cons rfl (VSL.cons rfl rfl))))) (hs_in n2 n3)
  rw [balance_eq]
  have p0 := ann_ok x
  have hz := hole_zero p0
  generalize annL x = h at *
  have hlh : Ll.len h = (h.length : Int) := rfl
  have eV : holeV h = volN h h.length := by unfold holeV; rw [if_pos hz]
  rw [eV]
  have hb := p0.b (n := h.length) (Nat.le_refl _)
  have hlen := p0.len
  have e := colL_ok (x := y) p0
  have hc6 : (colL y (volN h h.length)).length ≤ 6 := by
    have := colL_len y (volN h h.length)
    have := (cK_spec y (volN h h.length)).2.1
    omega
  generalize colL y (volN h h.length) = c at *
  have hh := held_col e
  have sum := e.sum
  rw [hz, hh, sum]
  simp only [cond_true]
  have hV : 1 ≤ volN h h.length := by omega
  have m0 := Int.emod_nonneg w (show (10000 : Int) ≠ 0 by omega)
  have m1 := Int.emod_lt_of_pos w (show (0 : Int) < 10000 by omega)
  have a0 := Int.emod_nonneg a (show volN h h.length ≠ 0 by omega)
  have a1 := Int.emod_lt_of_pos a (show 0 < volN h h.length by omega)
  have b0 := Int.emod_nonneg b (show volN h h.length ≠ 0 by omega)
  have b1 := Int.emod_lt_of_pos b (show 0 < volN h h.length by omega)
  have fw : InK .i64 (9000 + w % 10000) := by rw [InK64]; omega
  have fa : InK .i64 (1 + a % volN h h.length) := by rw [InK64]; omega
  have fb : InK .i64 (1 + b % volN h h.length) := by rw [InK64]; omega
  obtain ⟨W, hW⟩ : ∃ W, W = 9000 + w % 10000 := ⟨_, rfl⟩
  obtain ⟨A, hA⟩ : ∃ A, A = 1 + a % volN h h.length := ⟨_, rfl⟩
  obtain ⟨B, hB⟩ : ∃ B, B = 1 + b % volN h h.length := ⟨_, rfl⟩
  rw [← hW] at fw ⊢
  rw [← hA] at fa ⊢
  rw [← hB] at fb ⊢
  have w0 : 0 ≤ W := by omega
  have w1 : W ≤ 40000 := by omega
  have A0 : 1 ≤ A := by omega
  have A1 : A ≤ volN h h.length := by omega
  have B0 : 1 ≤ B := by omega
  have B1 : B ≤ volN h h.length := by omega
  clear hW hA hB m0 m1 a0 a1 b0 b1
  have pa := pumped e (by omega) w0 w1 A0 A1
  have pb := pumped e (by omega) w0 w1 B0 B1
  have la := pa.len
  have lb := pb.len
  have pab := pumped pa.col (by omega) w0 w1 B0 B1
  have pba := pumped pb.col (by omega) w0 w1 A0 A1
  have two := pumped_two e (by omega) w0 w1 A0 A1 B0 B1
  have lab := pab.len
  have loa := pa.olen
  have s1 := pl_sum pa.plain
  have s2 := pa.col.sum
  have s3 := pl_sum pa.oplain
  have s4 := pa.held
  have ps := plain_same pa.plain (by omega)
  have po := plain_same pa.oplain (by omega)
  have hd := pa.head
  have hpos := pa.col.len
  have f1 : ∀ z : Ll, Ll.len z = (z.length : Int) := fun _ => rfl
  have cz := col_zero pa.col
  rw [pa.err, pb.err, pab.err, pba.err, pa.oheld, pa.held, cz, ps, po, two, hd.1]
  rw [two] at lab
  simp only [sameL2_self, cond_true, cond_false, decide_true, Bool.not_true, ne_eq, not_true, decide_false, not_true_eq_false]
  clear pa pb pab pba two s1 s2 s3 s4 ps po cz e p0 hh sum
  simp only [f1, cond_iff, InK64] at *
  repeat' (first | exact end_b rfl | apply And.intro | intro _)
  all_goals first | omega | exact True.intro | (exfalso; omega)
end Go.Proofs.Ytfjilbjofaommaa
