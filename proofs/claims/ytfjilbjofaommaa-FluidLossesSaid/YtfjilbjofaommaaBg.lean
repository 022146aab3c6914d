/-
  Layer 3: what a flow loses; the law of losses.
-/
import Derived.Test.YtfjilbjofaommaaMi
import Derived.Test.YtfjilbjofaommaaMv
import Derived.Test.YtfjilbjofaommaaMk
import Derived.Test.YtfjilbjofaommaaMg
import Derived.Test.YtfjilbjofaommaaLo
set_option linter.unusedSimpArgs false
set_option linter.unusedVariables false
set_option maxRecDepth 100000
namespace Go.Proofs.Ytfjilbjofaommaa
open Go Go.Rx

noncomputable abbrev fslo : Fs where
  i := fun n ls xs => match n, ls, xs with | 1, [l], [] => holeE l | 2, [l], [] => holeV l | 3, [l], [u] => whereI l u | 4, [l], [y, v, q] => gI l y v q | 5, [], [a, b] => a / b | 6, [], [a, b] => cdiv a b | 7, [], [a, b] => a % b | 8, [l], [] => volN l l.length | 9, [l], [y, v, q, u] => lsA l y v q u (gI l y v q).toNat | 10, [l], [y, v, q, u] => lsB l y v q u (gI l y v q).toNat | 11, [], [a, b, c, e, y, v, f] => gradO a b c e y v f | 12, [l], [y, v, q, u] => lsA l y v q u l.length | 13, [l], [y, v, q, u] => lsB l y v q u l.length | 14, [l], [y, v, q, u] => lossA l y v q u | 15, [l], [y, v, q, u] => lossB l y v q u | _, _, _ => 0
  b := fun n ls xs => match n, ls, xs with | 35, [], [a, b, c, e, y, v, f] => gradK a b c e y v f | 36, [l], [y, v, q, u] => lossK l y v q u | 37, [l], [] => decide (∀ r_ ∈ l, r_.length = 4) | 38, [l], [] => decide (∀ i_ : Nat, i_ < l.length → 0 ≤ Ll.get l i_ 3 ∧ Ll.get l i_ 3 ≤ 200 ∧ 0 ≤ Ll.get l i_ 2 ∧ Ll.get l i_ 2 ≤ 5000) | _, _, _ => false
  l := fun n ls xs => match n, ls, xs with | 51, [x], [] => annL x | 52, [l], [] => wideP l l.length | _, _, _ => []
  rng := rngAt Try.prog
abbrev oannS {A : Go.Rx.Alg} : List (Go.Rx.SV A) → Go.Rx.SH A → Nat → Go.Rx.KS A → A.R := fun args_ M_ snx_ K_ => match args_ with
  | [x_x] => (match Go.Rx.lsArg M_ [.int .i64] x_x with | some (x, n_x) => (A.need .eql n_x (A.len x) ((M_.set snx_ (some (.list 42 [.int .i64, .int .i64, .int .i64, .int .i64] true (A.appL 51 [x] [])))).force fun M_ => K_ (.agg [.ls true snx_ (A.len (A.appL 51 [x] []))]) M_ (snx_ + 1) [])) | none => A.fail "oann")
  | _ => A.fail "oann"
theorem oannS_ok {ov : Bool} {d : Nat} (hd : 1000 ≤ d) : SpecOK (fs := fslo) (ov := ov) Try.prog AW d 9 oannS := by
  intro m_ hm_ args_ M_ snx_ K_ h_ ν_ largs_ H_ nx_ ha_ hM_
  unfold oannS at h_
  split at h_
  · rename_i x_x
    obtain ⟨v_x, r1, rfl, hx_x, rfl⟩ := ha_
    split at h_
    · rename_i x n_x q_x
      obtain ⟨e_x, h_⟩ := h_
      exact gives_got (annulus_gives (by omega) (lsArg_ok hM_ hx_x q_x e_x)) hM_ h_
    · exact h_.elim
  · exact h_.elim
abbrev om64S {A : Go.Rx.Alg} : List (Go.Rx.SV A) → Go.Rx.SH A → Nat → Go.Rx.KS A → A.R := fun args_ M_ snx_ K_ => match args_ with
  | [.i .i64 a, .i .i64 b] => (A.need .leq (A.lit 1) b (A.need .leq b (A.lit 9223372036854775807) (K_ (.i .i64 (A.app 7 [] [a, b])) M_ snx_ [])))
  | _ => A.fail "om64"
theorem om64S_ok {ov : Bool} {d : Nat} (hd : 1000 ≤ d) : SpecOK (fs := fslo) (ov := ov) Try.prog AW d 12 om64S := by
  intro m_ hm_ args_ M_ snx_ K_ h_ ν_ largs_ H_ nx_ ha_ hM_
  unfold om64S at h_
  split at h_
  · rename_i a b
    obtain ⟨y1, r1, rfl, rfl, ⟨y2, r2, rfl, rfl, rfl⟩⟩ := ha_
    obtain ⟨p1, h_⟩ := h_
    obtain ⟨p2, h_⟩ := h_
    exact pure_got (m64_pure (by omega) a b p1 p2) hM_ (v := .i .i64 _) rfl h_
  · exact h_.elim
abbrev ochkS {A : Go.Rx.Alg} : List (Go.Rx.SV A) → Go.Rx.SH A → Nat → Go.Rx.KS A → A.R := fun args_ M_ snx_ K_ => match args_ with
  | [.agg [x_l]] => (match Go.Rx.lsArg M_ [.int .i64, .int .i64, .int .i64, .int .i64] x_l with | some (l, n_l) => (A.need .eql n_l (A.len l) (K_ (.i .i64 (A.app 1 [l] [])) M_ snx_ [])) | none => A.fail "ochk")
  | _ => A.fail "ochk"
theorem ochkS_ok {ov : Bool} {d : Nat} (hd : 1000 ≤ d) : SpecOK (fs := fslo) (ov := ov) Try.prog AW d 38 ochkS := by
  intro m_ hm_ args_ M_ snx_ K_ h_ ν_ largs_ H_ nx_ ha_ hM_
  unfold ochkS at h_
  split at h_
  · rename_i x_l
    obtain ⟨y1, r1, rfl, ⟨l1, rfl, ⟨v_l, r2, rfl, hx_l, rfl⟩⟩, rfl⟩ := ha_
    split at h_
    · rename_i l n_l q_l
      obtain ⟨e_l, h_⟩ := h_
      exact pure_got (chk_pure (by omega) (lsArg_ok hM_ hx_l q_l e_l)) hM_ (v := .i .i64 _) rfl h_
    · exact h_.elim
  · exact h_.elim
abbrev ovolS {A : Go.Rx.Alg} : List (Go.Rx.SV A) → Go.Rx.SH A → Nat → Go.Rx.KS A → A.R := fun args_ M_ snx_ K_ => match args_ with
  | [.agg [x_l]] => (match Go.Rx.lsArg M_ [.int .i64, .int .i64, .int .i64, .int .i64] x_l with | some (l, n_l) => (A.need .eql n_l (A.len l) (K_ (.i .i64 (A.app 2 [l] [])) M_ snx_ [])) | none => A.fail "ovol")
  | _ => A.fail "ovol"
theorem ovolS_ok {ov : Bool} {d : Nat} (hd : 1000 ≤ d) : SpecOK (fs := fslo) (ov := ov) Try.prog AW d 20 ovolS := by
  intro m_ hm_ args_ M_ snx_ K_ h_ ν_ largs_ H_ nx_ ha_ hM_
  unfold ovolS at h_
  split at h_
  · rename_i x_l
    obtain ⟨y1, r1, rfl, ⟨l1, rfl, ⟨v_l, r2, rfl, hx_l, rfl⟩⟩, rfl⟩ := ha_
    split at h_
    · rename_i l n_l q_l
      obtain ⟨e_l, h_⟩ := h_
      exact pure_got (vol_pure (by omega) (lsArg_ok hM_ hx_l q_l e_l)) hM_ (v := .i .i64 _) rfl h_
    · exact h_.elim
  · exact h_.elim
abbrev owhS {A : Go.Rx.Alg} : List (Go.Rx.SV A) → Go.Rx.SH A → Nat → Go.Rx.KS A → A.R := fun args_ M_ snx_ K_ => match args_ with
  | [.agg [x_l], .i .i64 u] => (match Go.Rx.lsArg M_ [.int .i64, .int .i64, .int .i64, .int .i64] x_l with | some (l, n_l) => (A.need .eql n_l (A.len l) (K_ (.i .i64 (A.app 3 [l] [u])) M_ snx_ [])) | none => A.fail "owh")
  | _ => A.fail "owh"
theorem owhS_ok {ov : Bool} {d : Nat} (hd : 1000 ≤ d) : SpecOK (fs := fslo) (ov := ov) Try.prog AW d 40 owhS := by
  intro m_ hm_ args_ M_ snx_ K_ h_ ν_ largs_ H_ nx_ ha_ hM_
  unfold owhS at h_
  split at h_
  · rename_i x_l u
    obtain ⟨y1, r1, rfl, ⟨l1, rfl, ⟨v_l, r2, rfl, hx_l, rfl⟩⟩, ⟨y3, r3, rfl, rfl, rfl⟩⟩ := ha_
    split at h_
    · rename_i l n_l q_l
      obtain ⟨e_l, h_⟩ := h_
      exact pure_got (where_pure (by omega) u (lsArg_ok hM_ hx_l q_l e_l)) hM_ (v := .i .i64 _) rfl h_
    · exact h_.elim
  · exact h_.elim
abbrev odnS {A : Go.Rx.Alg} : List (Go.Rx.SV A) → Go.Rx.SH A → Nat → Go.Rx.KS A → A.R := fun args_ M_ snx_ K_ => match args_ with
  | [.i .i64 a, .i .i64 b] => (A.need .leq (A.lit (-9223372036854775808)) a (A.need .leq a (A.lit 9223372036854775807) (A.need .leq (A.lit 1) b (K_ (.i .i64 (A.app 5 [] [a, b])) M_ snx_ []))))
  | _ => A.fail "odn"
theorem odnS_ok {ov : Bool} {d : Nat} (hd : 1000 ≤ d) : SpecOK (fs := fslo) (ov := ov) Try.prog AW d 41 odnS := by
  intro m_ hm_ args_ M_ snx_ K_ h_ ν_ largs_ H_ nx_ ha_ hM_
  unfold odnS at h_
  split at h_
  · rename_i a b
    obtain ⟨y1, r1, rfl, rfl, ⟨y2, r2, rfl, rfl, rfl⟩⟩ := ha_
    obtain ⟨p1, h_⟩ := h_
    obtain ⟨p2, h_⟩ := h_
    obtain ⟨p3, h_⟩ := h_
    exact pure_got (dn_pure (by omega) a b p1 p2 p3) hM_ (v := .i .i64 _) rfl h_
  · exact h_.elim
abbrev oupS {A : Go.Rx.Alg} : List (Go.Rx.SV A) → Go.Rx.SH A → Nat → Go.Rx.KS A → A.R := fun args_ M_ snx_ K_ => match args_ with
  | [.i .i64 a, .i .i64 b] => (A.need .leq (A.lit (-9223372036854775808)) a (A.need .leq a (A.lit 9223372036854775806) (A.need .leq (A.lit 1) b (K_ (.i .i64 (A.app 6 [] [a, b])) M_ snx_ []))))
  | _ => A.fail "oup"
theorem oupS_ok {ov : Bool} {d : Nat} (hd : 1000 ≤ d) : SpecOK (fs := fslo) (ov := ov) Try.prog AW d 42 oupS := by
  intro m_ hm_ args_ M_ snx_ K_ h_ ν_ largs_ H_ nx_ ha_ hM_
  unfold oupS at h_
  split at h_
  · rename_i a b
    obtain ⟨y1, r1, rfl, rfl, ⟨y2, r2, rfl, rfl, rfl⟩⟩ := ha_
    obtain ⟨p1, h_⟩ := h_
    obtain ⟨p2, h_⟩ := h_
    obtain ⟨p3, h_⟩ := h_
    exact pure_got (up_pure (by omega) a b p1 p2 p3) hM_ (v := .i .i64 _) rfl h_
  · exact h_.elim
abbrev ogrS {A : Go.Rx.Alg} : List (Go.Rx.SV A) → Go.Rx.SH A → Nat → Go.Rx.KS A → A.R := fun args_ M_ snx_ K_ => match args_ with
  | [.agg [.i .i64 a, .i .i64 b, .i .i64 c, .i .i64 e], .agg [.i .i64 y, .i .i64 v], .i .i64 f] => (K_ (.tup [.i .i64 (A.app 11 [] [a, b, c, e, y, v, f]), .b (A.appB 35 [] [a, b, c, e, y, v, f])]) M_ snx_ [])
  | _ => A.fail "ogr"
theorem ogrS_ok {ov : Bool} {d : Nat} (hd : 1000 ≤ d) : SpecOK (fs := fslo) (ov := ov) Try.prog AW d 22 ogrS := by
  intro m_ hm_ args_ M_ snx_ K_ h_ ν_ largs_ H_ nx_ ha_ hM_
  unfold ogrS at h_
  split at h_
  · rename_i a b c e y v f
    obtain ⟨y1, r1, rfl, ⟨l1, rfl, ⟨y2, r2, rfl, rfl, ⟨y3, r3, rfl, rfl, ⟨y4, r4, rfl, rfl, ⟨y5, r5, rfl, rfl, rfl⟩⟩⟩⟩⟩, ⟨y6, r6, rfl, ⟨l6, rfl, ⟨y7, r7, rfl, rfl, ⟨y8, r8, rfl, rfl, rfl⟩⟩⟩, ⟨y9, r9, rfl, rfl, rfl⟩⟩⟩ := ha_
    exact pure_got (ggrad_pure (by omega) a b c e y v f) hM_ (v := .tup [.i .i64 _, .b _]) ⟨_, rfl, (VSL.cons rfl (VSL.cons rfl rfl))⟩ h_
  · exact h_.elim
abbrev spLo {A : Go.Rx.Alg} : Go.Rx.SpL A := [(AW, Go.Rx.awakeS), (38, ochkS), (20, ovolS), (40, owhS), (41, odnS), (42, oupS), (22, ogrS)]
theorem spLo_ok {ov : Bool} {d : Nat} (hd : 1000 ≤ d) : SpOK (fs := fslo) (ov := ov) Try.prog AW d spLo := SpOK.cons awake_ok (SpOK.cons (ochkS_ok (by omega)) (SpOK.cons (ovolS_ok (by omega)) (SpOK.cons (owhS_ok (by omega)) (SpOK.cons (odnS_ok (by omega)) (SpOK.cons (oupS_ok (by omega)) (SpOK.cons (ogrS_ok (by omega)) SpOK.nil))))))
theorem spLo_aw {fs : Fs} {ov : Bool} : (spOf (A := stdA fs ov) spLo AW).isSome = true := rfl
theorem los_eq (y v q u w i f a b : Int) (d : Bool) (l : Ll) (T : Al (SV (stdA fslo true))) (M : Al (SO (stdA fslo true))) (KK : Ex → List (SV (stdA fslo true)) → List (SO (stdA fslo true)) → List Ll → Prop) : sCode Try.prog (sCall Try.prog 30 (spOf spLo) noLoop 20) ⟨53, false, noLoop 53⟩ 30 (false :: [false, true, true]) (bodyAt Try.prog 53 [false, true, true]) (hdL (bodyAt Try.prog 53 [false, true, true]) T M 32 11 [(0, .yld 10), (8, .ls false 0 (Ll.len l)), (9, .i .i64 (Ll.len l))] [(0, .list 0 [.int .i64, .int .i64, .int .i64, .int .i64] false l), (2, .row 52 [.i .i64 y, .i .i64 v]), (3, .row 2 [.i .i64 q]), (4, .row 2 [.i .i64 u]), (7, .row 3 [.i .i64 w])] [(3, .i .i64 f), (10, .i .i64 i)] [(5, .row 34 [.i .i64 (0 : Int), .i .i64 (0 : Int)]), (6, .row 4 [.b d]), (8, .row 34 [.i .i64 a, .i .i64 b]), (10, .frm 21 [false, true, false, true, true, true, true] 82 (.c 5 (some (.p 2 0)) (.c 6 (some (.p 3 0)) (.c 7 (some (.p 4 0)) (.c 8 (some (.p 5 0)) (.c 9 (some (.p 6 0)) (.c 10 (some (.p 7 0)) (.c 11 (some (.p 8 0)) .l))))))) false .normal)] [] [] []) (outL 11 (tsOf [3, 10] []) [5, 6, 8, 10] [] [] KK) =
  (cond (decide (i < (Ll.len l)))
 ((0 : Int) ≤ i ∧ (i < (Ll.len l) ∧ (i < (Ll.len l) ∧ (InK .i64 ((Ll.get l i 0) * (Ll.get l i 2)) ∧ (InK .i64 (f + ((Ll.get l i 0) * (Ll.get l i 2))) ∧ (cond (!(gradK (Ll.get l i 0) (Ll.get l i 1) (Ll.get l i 2) (Ll.get l i 3) y v q))
 (KK .ret [] [(.row 34 [(.i .i64 (0 : Int)), (.i .i64 (0 : Int))]), (.row 4 [(.b false)]), (.row 34 [(.i .i64 a), (.i .i64 b)]), (.frm 21 [false, true, false, true, true, true, true] 82 (.c 5 (some (.p 2 0)) (.c 6 (some (.p 3 0)) (.c 7 (some (.p 4 0)) (.c 8 (some (.p 5 0)) (.c 9 (some (.p 6 0)) (.c 10 (some (.p 7 0)) (.c 11 (some (.p 8 0)) .l))))))) false .ret)] [])
 (cond (decide (i < w))
 (InK .i64 (i + (1 : Int)) ∧ (KK .normal [(.i .i64 (f + ((Ll.get l i 0) * (Ll.get l i 2)))), (.i .i64 (i + (1 : Int)))] [(.row 34 [(.i .i64 (0 : Int)), (.i .i64 (0 : Int))]), (.row 4 [(.b d)]), (.row 34 [(.i .i64 a), (.i .i64 b)]), (.frm 21 [false, true, false, true, true, true, true] 82 (.c 5 (some (.p 2 0)) (.c 6 (some (.p 3 0)) (.c 7 (some (.p 4 0)) (.c 8 (some (.p 5 0)) (.c 9 (some (.p 6 0)) (.c 10 (some (.p 7 0)) (.c 11 (some (.p 8 0)) .l))))))) false .normal)] []))
 (InK .i64 ((f + ((Ll.get l i 0) * (Ll.get l i 2))) - (maxL u f)) ∧ ((-9223372036854775808 : Int) ≤ ((f + ((Ll.get l i 0) * (Ll.get l i 2))) - (maxL u f)) ∧ (((f + ((Ll.get l i 0) * (Ll.get l i 2))) - (maxL u f)) ≤ (9223372036854775807 : Int) ∧ ((1 : Int) ≤ (Ll.get l i 2) ∧ (InK .i64 ((gradO (Ll.get l i 0) (Ll.get l i 1) (Ll.get l i 2) (Ll.get l i 3) y v q) * (((f + ((Ll.get l i 0) * (Ll.get l i 2))) - (maxL u f)) / (Ll.get l i 2))) ∧ (InK .i64 (a + ((gradO (Ll.get l i 0) (Ll.get l i 1) (Ll.get l i 2) (Ll.get l i 3) y v q) * (((f + ((Ll.get l i 0) * (Ll.get l i 2))) - (maxL u f)) / (Ll.get l i 2)))) ∧ ((-9223372036854775808 : Int) ≤ ((f + ((Ll.get l i 0) * (Ll.get l i 2))) - (maxL u f)) ∧ (((f + ((Ll.get l i 0) * (Ll.get l i 2))) - (maxL u f)) ≤ (9223372036854775806 : Int) ∧ ((1 : Int) ≤ (Ll.get l i 2) ∧ (InK .i64 ((gradO (Ll.get l i 0) (Ll.get l i 1) (Ll.get l i 2) (Ll.get l i 3) y v q) * (cdiv ((f + ((Ll.get l i 0) * (Ll.get l i 2))) - (maxL u f)) (Ll.get l i 2))) ∧ (InK .i64 (b + ((gradO (Ll.get l i 0) (Ll.get l i 1) (Ll.get l i 2) (Ll.get l i 3) y v q) * (cdiv ((f + ((Ll.get l i 0) * (Ll.get l i 2))) - (maxL u f)) (Ll.get l i 2)))) ∧ (InK .i64 (i + (1 : Int)) ∧ (KK .normal [(.i .i64 (f + ((Ll.get l i 0) * (Ll.get l i 2)))), (.i .i64 (i + (1 : Int)))] [(.row 34 [(.i .i64 (0 : Int)), (.i .i64 (0 : Int))]), (.row 4 [(.b d)]), (.row 34 [(.i .i64 (a + ((gradO (Ll.get l i 0) (Ll.get l i 1) (Ll.get l i 2) (Ll.get l i 3) y v q) * (((f + ((Ll.get l i 0) * (Ll.get l i 2))) - (maxL u f)) / (Ll.get l i 2))))), (.i .i64 (b + ((gradO (Ll.get l i 0) (Ll.get l i 1) (Ll.get l i 2) (Ll.get l i 3) y v q) * (cdiv ((f + ((Ll.get l i 0) * (Ll.get l i 2))) - (maxL u f)) (Ll.get l i 2)))))]), (.frm 21 [false, true, false, true, true, true, true] 82 (.c 5 (some (.p 2 0)) (.c 6 (some (.p 3 0)) (.c 7 (some (.p 4 0)) (.c 8 (some (.p 5 0)) (.c 9 (some (.p 6 0)) (.c 10 (some (.p 7 0)) (.c 11 (some (.p 8 0)) .l))))))) false .normal)] []))))))))))))))))))))
 (KK (.exit 0) [(.i .i64 f), (.i .i64 i)] [(.row 34 [(.i .i64 (0 : Int)), (.i .i64 (0 : Int))]), (.row 4 [(.b d)]), (.row 34 [(.i .i64 a), (.i .i64 b)]), (.frm 21 [false, true, false, true, true, true, true] 82 (.c 5 (some (.p 2 0)) (.c 6 (some (.p 3 0)) (.c 7 (some (.p 4 0)) (.c 8 (some (.p 5 0)) (.c 9 (some (.p 6 0)) (.c 10 (some (.p 7 0)) (.c 11 (some (.p 8 0)) .l))))))) false .normal)] [])) := by kernel_rfl
theorem los_go (y : Int) (v : Int) (q : Int) (u : Int) (w : Int) (l : Ll) (i : Int) (f : Int) (a : Int) (b : Int) (d : Bool) (i_0 : Int) (f_0 : Int) (a_0 : Int) (b_0 : Int) (d_0 : Bool) (r1 : i_0 = (0 : Int)) (r2 : f_0 = (0 : Int)) (r3 : a_0 = (0 : Int)) (r4 : b_0 = (0 : Int)) (T : Al (SV (stdA fslo true))) (M : Al (SO (stdA fslo true))) (KK : Ex → List (SV (stdA fslo true)) → List (SO (stdA fslo true)) → List Ll → Prop) (p1 : (holeE l) = (0 : Int)) (p2 : (0 : Int) ≤ u) (p3 : u ≤ (volN l l.length)) (p4 : w = (whereI l u)) (hI : 0 ≤ i ∧ i ≤ l.length ∧ i ≤ gI l y v q ∧ f = volN l i.toNat ∧ a = lsA l y v q u i.toNat ∧ b = lsB l y v q u i.toNat ∧ d = d_0) (hn : ∀ (i' : Int) (f' : Int) (a' : Int) (b' : Int) (d' : Bool), 0 ≤ i' ∧ i' ≤ l.length ∧ i' ≤ gI l y v q ∧ f' = volN l i'.toNat ∧ a' = lsA l y v q u i'.toNat ∧ b' = lsB l y v q u i'.toNat ∧ d' = d_0 → (20 - i').toNat < (20 - i).toNat → KK .normal [.i .i64 f', .i .i64 i'] [.row 34 [.i .i64 (0 : Int), .i .i64 (0 : Int)], .row 4 [.b d'], .row 34 [.i .i64 a', .i .i64 b'], .frm 21 [false, true, false, true, true, true, true] 82 (.c 5 (some (.p 2 0)) (.c 6 (some (.p 3 0)) (.c 7 (some (.p 4 0)) (.c 8 (some (.p 5 0)) (.c 9 (some (.p 6 0)) (.c 10 (some (.p 7 0)) (.c 11 (some (.p 8 0)) .l))))))) false .normal] []) (hx1 : (gI l y v q) < (Ll.len l) → KK .ret [] [.row 34 [.i .i64 (0 : Int), .i .i64 (0 : Int)], .row 4 [.b false], .row 34 [.i .i64 (lsA l y v q u (gI l y v q).toNat), .i .i64 (lsB l y v q u (gI l y v q).toNat)], .frm 21 [false, true, false, true, true, true, true] 82 (.c 5 (some (.p 2 0)) (.c 6 (some (.p 3 0)) (.c 7 (some (.p 4 0)) (.c 8 (some (.p 5 0)) (.c 9 (some (.p 6 0)) (.c 10 (some (.p 7 0)) (.c 11 (some (.p 8 0)) .l))))))) false .ret] []) (hx2 : ¬ ((gI l y v q) < (Ll.len l)) → KK (.exit 0) [.i .i64 (volN l l.length), .i .i64 (Ll.len l)] [.row 34 [.i .i64 (0 : Int), .i .i64 (0 : Int)], .row 4 [.b d_0], .row 34 [.i .i64 (lsA l y v q u l.length), .i .i64 (lsB l y v q u l.length)], .frm 21 [false, true, false, true, true, true, true] 82 (.c 5 (some (.p 2 0)) (.c 6 (some (.p 3 0)) (.c 7 (some (.p 4 0)) (.c 8 (some (.p 5 0)) (.c 9 (some (.p 6 0)) (.c 10 (some (.p 7 0)) (.c 11 (some (.p 8 0)) .l))))))) false .normal] []) :
    sCode Try.prog (sCall Try.prog 30 (spOf spLo) noLoop 20) ⟨53, false, noLoop 53⟩ 30 (false :: [false, true, true]) (bodyAt Try.prog 53 [false, true, true]) (hdL (bodyAt Try.prog 53 [false, true, true]) T M 32 11 [(0, .yld 10), (8, .ls false 0 (Ll.len l)), (9, .i .i64 (Ll.len l))] [(0, .list 0 [.int .i64, .int .i64, .int .i64, .int .i64] false l), (2, .row 52 [.i .i64 y, .i .i64 v]), (3, .row 2 [.i .i64 q]), (4, .row 2 [.i .i64 u]), (7, .row 3 [.i .i64 w])] [(3, .i .i64 f), (10, .i .i64 i)] [(5, .row 34 [.i .i64 (0 : Int), .i .i64 (0 : Int)]), (6, .row 4 [.b d]), (8, .row 34 [.i .i64 a, .i .i64 b]), (10, .frm 21 [false, true, false, true, true, true, true] 82 (.c 5 (some (.p 2 0)) (.c 6 (some (.p 3 0)) (.c 7 (some (.p 4 0)) (.c 8 (some (.p 5 0)) (.c 9 (some (.p 6 0)) (.c 10 (some (.p 7 0)) (.c 11 (some (.p 8 0)) .l))))))) false .normal)] [] [] []) (outL 11 (tsOf [3, 10] []) [5, 6, 8, 10] [] [] KK) := by
  refine Eq.mpr (los_eq y v q u w i f a b d l T M KK) ?_
  simp only [cond_iff, cond_not, InK64]
  obtain ⟨i0, i1, i2, rfl, rfl, rfl, rfl⟩ := hI
  have hl : Ll.len l = (l.length : Int) := rfl
  have p0 : HoleOK l := hole_of p1
  have hlen := p0.len
  have hg := gI_spec l y v q
  have ew : w = whI l u := by rw [p4]; unfold whereI; rw [if_pos ⟨p1, p2, p3⟩]
  by_cases h : i < Ll.len l
  · have ha := p0.at i0 (by omega)
    have hb := p0.b (n := i.toNat) (by omega)
    have hb1 := p0.b (n := i.toNat + 1) (by omega)
    have hbl := p0.b (n := l.length) (Nat.le_refl _)
    have hm := mul_bd (show 0 ≤ Ll.get l i 0 by omega) ha.1.2 (show 0 ≤ Ll.get l i 2 by omega) ha.2.2.2.2.1
    have e := volN_succ (l := l) i0
    have e1 : (i + 1).toNat = i.toNat + 1 := by omega
    have hs := leastN_step (p := fun i => !gK l y v q i) (k := l.length) i0 i2 (by omega)
    have ai := abv_is p0 p2 p3 (i := i.toNat) (by omega)
    have av := abv_b p0 (u := u) (i := i.toNat) (by omega)
    rw [Int.toNat_of_nonneg i0] at ai av
    have eA := lsA_succ (l := l) (y := y) (v := v) (q := q) (u := u) i0
    have eB := lsB_succ (l := l) (y := y) (v := v) (q := q) (u := u) i0
    have hgk : gradK (Ll.get l i 0) (Ll.get l i 1) (Ll.get l i 2) (Ll.get l i 3) y v q = gK l y v q i := rfl
    have hgo : gradO (Ll.get l i 0) (Ll.get l i 1) (Ll.get l i 2) (Ll.get l i 3) y v q = gO l y v q i := rfl
    have go := gradO_b (Ll.get l i 0) (Ll.get l i 1) (Ll.get l i 2) (Ll.get l i 3) y v q
    rw [hgk, hgo] at *
    have lb := ls_b p0 y v q u i.toNat (by omega)
    have lb1 := ls_b p0 y v q u (i.toNat + 1) (by omega)
    have pb := part_b (s := 0) go.1 go.2 av.1 ha.2.2.2.1 av.2
    rw [ew]
    -- a segment without a gradient
    have hX : ¬ gK l y v q i = true → gI l y v q = i := fun hk => hs.1 (by simp [hk])
    have hR : ¬ gK l y v q i = true → KK .ret [] [.row 34 [.i .i64 0, .i .i64 0], .row 4 [.b false], .row 34 [.i .i64 (lsA l y v q u i.toNat), .i .i64 (lsB l y v q u i.toNat)], .frm 21 [false, true, false, true, true, true, true] 82 (.c 5 (some (.p 2 0)) (.c 6 (some (.p 3 0)) (.c 7 (some (.p 4 0)) (.c 8 (some (.p 5 0)) (.c 9 (some (.p 6 0)) (.c 10 (some (.p 7 0)) (.c 11 (some (.p 8 0)) .l))))))) false .ret] [] := fun hk => by
      have := hX hk
      have h9 := hx1 (show gI l y v q < Ll.len l by omega)
      rw [this] at h9; exact h9
    have hN : gK l y v q i = true → KK .normal [.i .i64 (volN l i.toNat + Ll.get l i 0 * Ll.get l i 2), .i .i64 (i + 1)] [.row 34 [.i .i64 0, .i .i64 0], .row 4 [.b d], .row 34 [.i .i64 (lsA l y v q u i.toNat + gO l y v q i * (abv l u i.toNat / Ll.get l i 2)), .i .i64 (lsB l y v q u i.toNat + gO l y v q i * cdiv (abv l u i.toNat) (Ll.get l i 2))], .frm 21 [false, true, false, true, true, true, true] 82 (.c 5 (some (.p 2 0)) (.c 6 (some (.p 3 0)) (.c 7 (some (.p 4 0)) (.c 8 (some (.p 5 0)) (.c 9 (some (.p 6 0)) (.c 10 (some (.p 7 0)) (.c 11 (some (.p 8 0)) .l))))))) false .normal] [] := fun hk => by
      have h3 : i + 1 ≤ gI l y v q := hs.2 (by simp [hk])
      have := hn (i + 1) _ _ _ d ⟨by omega, by omega, h3, by rw [e1, e], by rw [e1, eA], by rw [e1, eB], rfl⟩ (by omega)
      exact this
    have hN0 : gK l y v q i = true → i < whI l u → KK .normal [.i .i64 (volN l i.toNat + Ll.get l i 0 * Ll.get l i 2), .i .i64 (i + 1)] [.row 34 [.i .i64 0, .i .i64 0], .row 4 [.b d], .row 34 [.i .i64 (lsA l y v q u i.toNat), .i .i64 (lsB l y v q u i.toNat)], .frm 21 [false, true, false, true, true, true, true] 82 (.c 5 (some (.p 2 0)) (.c 6 (some (.p 3 0)) (.c 7 (some (.p 4 0)) (.c 8 (some (.p 5 0)) (.c 9 (some (.p 6 0)) (.c 10 (some (.p 7 0)) (.c 11 (some (.p 8 0)) .l))))))) false .normal] [] := fun hk hlt => by
      have := hN hk
      rw [ai.1 hlt] at this
      simpa [cdiv] using this
    have hN1 : gK l y v q i = true → ¬ i < whI l u → KK .normal [.i .i64 (volN l i.toNat + Ll.get l i 0 * Ll.get l i 2), .i .i64 (i + 1)] [.row 34 [.i .i64 0, .i .i64 0], .row 4 [.b d], .row 34 [.i .i64 (lsA l y v q u i.toNat + gO l y v q i * ((volN l i.toNat + Ll.get l i 0 * Ll.get l i 2 - maxL u (volN l i.toNat)) / Ll.get l i 2)), .i .i64 (lsB l y v q u i.toNat + gO l y v q i * cdiv (volN l i.toNat + Ll.get l i 0 * Ll.get l i 2 - maxL u (volN l i.toNat)) (Ll.get l i 2))], .frm 21 [false, true, false, true, true, true, true] 82 (.c 5 (some (.p 2 0)) (.c 6 (some (.p 3 0)) (.c 7 (some (.p 4 0)) (.c 8 (some (.p 5 0)) (.c 9 (some (.p 6 0)) (.c 10 (some (.p 7 0)) (.c 11 (some (.p 8 0)) .l))))))) false .normal] [] := fun hk hlt => by
      have := ai.2 hlt
      rw [e] at this
      rw [this]; exact hN hk
    have ai2 : ¬ i < whI l u → volN l i.toNat + Ll.get l i 0 * Ll.get l i 2 - maxL u (volN l i.toNat) = abv l u i.toNat := fun hlt => by
      have := ai.2 hlt
      rw [e] at this; exact this
    have hmx : volN l i.toNat ≤ maxL u (volN l i.toNat) ∧ 0 ≤ maxL u (volN l i.toNat) ∧ maxL u (volN l i.toNat) ≤ 5242880000 := by rw [maxL_eq]; split <;> omega
    have kno : gK l y v q i = false → ¬ gK l y v q i = true := fun h => by rw [h]; decide
    have kyes : ¬ gK l y v q i = false → gK l y v q i = true := fun h => by cases hk : gK l y v q i <;> simp_all
    by_cases hw : i < whI l u
    · have hN := fun hk => hN0 hk hw
      clear hN0 hN1 ai2 ai eA eB pb lb1 hs hX hn
      generalize Ll.get l i 0 * Ll.get l i 2 = m at *
      cases hk : gK l y v q i with
      | false =>
        simp only [Bool.not_false, cond_true, cond_false]
        have hR := hR (kno hk)
        repeat' (first | apply And.intro | intro _)
        all_goals first | trivial | contradiction | omega | exact hR
      | true =>
        simp only [Bool.not_true, cond_true, cond_false]
        have hN := hN hk
        repeat' (first | apply And.intro | intro _)
        all_goals first | trivial | contradiction | omega | exact hN
    · rw [ai2 hw]
      clear hN0 hN1 ai2 ai eA eB lb1 hs hX hn
      have hsum := p0.sum
      generalize gO l y v q i * (abv l u i.toNat / Ll.get l i 2) = P1 at *
      generalize gO l y v q i * cdiv (abv l u i.toNat) (Ll.get l i 2) = P2 at *
      generalize abv l u i.toNat = X at *
      generalize Ll.get l i 0 * Ll.get l i 2 = m at *
      cases hk : gK l y v q i with
      | false =>
        simp only [Bool.not_false, cond_true, cond_false]
        have hR := hR (kno hk)
        repeat' (first | apply And.intro | intro _)
        all_goals first | trivial | contradiction | omega | exact hR
      | true =>
        simp only [Bool.not_true, cond_true, cond_false]
        have hN := hN hk
        repeat' (first | apply And.intro | intro _)
        all_goals first | trivial | contradiction | omega | exact hN
  · obtain rfl : i = l.length := by omega
    rw [Int.toNat_natCast]
    have hge : ¬ gI l y v q < Ll.len l := by omega
    repeat' (first | apply And.intro | intro _)
    all_goals first | trivial | omega | exact hx2 hge
abbrev losF {A : Go.Rx.Alg} : Code → Go.Rx.SS A → (Go.Rx.Ex → Go.Rx.SS A → A.R) → A.R := fun c_ s_ K_ => match s_.T.get 0, s_.T.get 8, s_.T.get 9, s_.H.get 0, s_.H.get 2, s_.H.get 3, s_.H.get 4, s_.H.get 7, s_.T.get 3, s_.T.get 10, s_.H.get 5, s_.H.get 6, s_.H.get 8, s_.H.get 10 with
  | some (.yld 10), some (.ls false 0 m1), some (.i .i64 m2), some (.list t3 k3 false l), some (.row t4 [.i .i64 y, .i .i64 v]), some (.row t5 [.i .i64 q]), some (.row t6 [.i .i64 u]), some (.row t7 [.i .i64 w]), some (.i .i64 f), some (.i .i64 i), some (.row t8 [.i .i64 m9, .i .i64 m10]), some (.row t11 [.b d]), some (.row t12 [.i .i64 a, .i .i64 b]), some (.frm f13 p13_ n13_ T13_ false .normal) => (match T13_.get 5, T13_.get 6, T13_.get 7, T13_.get 8, T13_.get 9, T13_.get 10, T13_.get 11 with
    | some (.p 2 0), some (.p 3 0), some (.p 4 0), some (.p 5 0), some (.p 6 0), some (.p 7 0), some (.p 8 0) => bif (((((((((((((Nat.beq s_.N 32 && Nat.beq s_.nx 11) && Nat.beq t3 0) && decide (k3 = [.int .i64, .int .i64, .int .i64, .int .i64])) && Nat.beq t4 52) && Nat.beq t5 2) && Nat.beq t6 2) && Nat.beq t7 3) && Nat.beq t8 34) && Nat.beq t11 4) && Nat.beq t12 34) && Nat.beq f13 21) && Go.Rx.samePath p13_ [false, true, false, true, true, true, true]) && Nat.beq n13_ 82) then (A.need .eql m1 (A.len l) (A.need .eql m2 (A.len l) (A.need .eql m9 (A.lit 0) (A.need .eql m10 (A.lit 0) (A.need .eql (A.app 1 [l] []) (A.lit 0) (A.need .leq (A.lit 0) u (A.need .leq u (A.app 8 [l] []) (A.need .eql w (A.app 3 [l] [u]) (A.need .eql i (A.lit 0) (A.need .eql f (A.lit 0) (A.need .eql a (A.lit 0) (A.need .eql b (A.lit 0) ((A.br (A.cmp .lss (A.app 4 [l] [y, v, q]) (A.len l)) (fun _ => K_ .ret (Go.Rx.hdL c_ s_.T (Go.Rx.kills [] (s_.H.set 10 (some (.frm 21 [false, true, false, true, true, true, true] 82 (.c 5 (some (.p 2 0)) (.c 6 (some (.p 3 0)) (.c 7 (some (.p 4 0)) (.c 8 (some (.p 5 0)) (.c 9 (some (.p 6 0)) (.c 10 (some (.p 7 0)) (.c 11 (some (.p 8 0)) .l))))))) false .normal)))) 32 11 [(0, .yld 10), (8, .ls false 0 (A.len l)), (9, .i .i64 (A.len l))] [(0, .list 0 [.int .i64, .int .i64, .int .i64, .int .i64] false l), (2, .row 52 [.i .i64 y, .i .i64 v]), (3, .row 2 [.i .i64 q]), (4, .row 2 [.i .i64 u]), (7, .row 3 [.i .i64 w])] [] [(5, .row 34 [.i .i64 (A.lit 0), .i .i64 (A.lit 0)]), (6, .row 4 [.b (A.ofB false)]), (8, .row 34 [.i .i64 (A.app 9 [l] [y, v, q, u]), .i .i64 (A.app 10 [l] [y, v, q, u])]), (10, .frm 21 [false, true, false, true, true, true, true] 82 (.c 5 (some (.p 2 0)) (.c 6 (some (.p 3 0)) (.c 7 (some (.p 4 0)) (.c 8 (some (.p 5 0)) (.c 9 (some (.p 6 0)) (.c 10 (some (.p 7 0)) (.c 11 (some (.p 8 0)) .l))))))) false .ret)] [] [] (Go.Rx.addW ([] ++ [5, 6, 8, 10]) s_.wr))) (fun _ => K_ (.exit 0) (Go.Rx.hdL c_ s_.T (Go.Rx.kills [] (s_.H.set 10 (some (.frm 21 [false, true, false, true, true, true, true] 82 (.c 5 (some (.p 2 0)) (.c 6 (some (.p 3 0)) (.c 7 (some (.p 4 0)) (.c 8 (some (.p 5 0)) (.c 9 (some (.p 6 0)) (.c 10 (some (.p 7 0)) (.c 11 (some (.p 8 0)) .l))))))) false .normal)))) 32 11 [(0, .yld 10), (8, .ls false 0 (A.len l)), (9, .i .i64 (A.len l))] [(0, .list 0 [.int .i64, .int .i64, .int .i64, .int .i64] false l), (2, .row 52 [.i .i64 y, .i .i64 v]), (3, .row 2 [.i .i64 q]), (4, .row 2 [.i .i64 u]), (7, .row 3 [.i .i64 w])] [(3, .i .i64 (A.app 8 [l] [])), (10, .i .i64 (A.len l))] [(5, .row 34 [.i .i64 (A.lit 0), .i .i64 (A.lit 0)]), (6, .row 4 [.b d]), (8, .row 34 [.i .i64 (A.app 12 [l] [y, v, q, u]), .i .i64 (A.app 13 [l] [y, v, q, u])]), (10, .frm 21 [false, true, false, true, true, true, true] 82 (.c 5 (some (.p 2 0)) (.c 6 (some (.p 3 0)) (.c 7 (some (.p 4 0)) (.c 8 (some (.p 5 0)) (.c 9 (some (.p 6 0)) (.c 10 (some (.p 7 0)) (.c 11 (some (.p 8 0)) .l))))))) false .normal)] [] [] (Go.Rx.addW ([] ++ [5, 6, 8, 10]) s_.wr))))))))))))))))) else A.fail "frame of los"
    | _, _, _, _, _, _, _ => A.fail "slots of los")
  | _, _, _, _, _, _, _, _, _, _, _, _, _, _ => A.fail "los"
theorem losF_ok {d : Nat} (hd : 1100 ≤ d) : LoopOK (fs := fslo) (ov := true) Try.prog AW d 53 [false, true, true] false losF := by
  intro m_ hm_ fn_ c0_ hfn_ hb_ c_ ro_ hro_ hc_ s_ K_ W_ ν_ S_ h_ hs_
  obtain rfl := body_of hfn_ hb_ hc_
  unfold losF at h_
  split at h_
  · rename_i m1_0 m2_0 t3 k3 l_0 t4 y_0 v_0 t5 q_0 t6 u_0 t7 w_0 f_0_0 i_0_0 t8 m9_0 m10_0 t11 d_0_0 t12 a_0_0 b_0_0 f13 p13_ n13_ T13_ g0 g1 g2 g3 g4 g5 g6 g7 g8 g9 g10 g11 g12 g13
    split at h_
    rotate_left
    · exact h_.elim
    rename_i z0 z1 z2 z3 z4 z5 z6
    obtain ⟨m1, rfl⟩ : ∃ q : Int, q = m1_0 := ⟨m1_0, rfl⟩
    obtain ⟨m2, rfl⟩ : ∃ q : Int, q = m2_0 := ⟨m2_0, rfl⟩
    obtain ⟨l, rfl⟩ : ∃ q : Ll, q = l_0 := ⟨l_0, rfl⟩
    obtain ⟨y, rfl⟩ : ∃ q : Int, q = y_0 := ⟨y_0, rfl⟩
    obtain ⟨v, rfl⟩ : ∃ q : Int, q = v_0 := ⟨v_0, rfl⟩
    obtain ⟨q, rfl⟩ : ∃ q : Int, q = q_0 := ⟨q_0, rfl⟩
    obtain ⟨u, rfl⟩ : ∃ q : Int, q = u_0 := ⟨u_0, rfl⟩
    obtain ⟨w, rfl⟩ : ∃ q : Int, q = w_0 := ⟨w_0, rfl⟩
    obtain ⟨f_0, rfl⟩ : ∃ q : Int, q = f_0_0 := ⟨f_0_0, rfl⟩
    obtain ⟨i_0, rfl⟩ : ∃ q : Int, q = i_0_0 := ⟨i_0_0, rfl⟩
    obtain ⟨m9, rfl⟩ : ∃ q : Int, q = m9_0 := ⟨m9_0, rfl⟩
    obtain ⟨m10, rfl⟩ : ∃ q : Int, q = m10_0 := ⟨m10_0, rfl⟩
    obtain ⟨d_0, rfl⟩ : ∃ q : Bool, q = d_0_0 := ⟨d_0_0, rfl⟩
    obtain ⟨a_0, rfl⟩ : ∃ q : Int, q = a_0_0 := ⟨a_0_0, rfl⟩
    obtain ⟨b_0, rfl⟩ : ∃ q : Int, q = b_0_0 := ⟨b_0_0, rfl⟩
    obtain ⟨T_, FN_, M_, snx_, wr_⟩ := s_
    have hN : (((((((((((((Nat.beq FN_ 32 && Nat.beq snx_ 11) && Nat.beq t3 0) && decide (k3 = [.int .i64, .int .i64, .int .i64, .int .i64])) && Nat.beq t4 52) && Nat.beq t5 2) && Nat.beq t6 2) && Nat.beq t7 3) && Nat.beq t8 34) && Nat.beq t11 4) && Nat.beq t12 34) && Nat.beq f13 21) && Go.Rx.samePath p13_ [false, true, false, true, true, true, true]) && Nat.beq n13_ 82) = true := by
      cases hq : ((((((((((((((Nat.beq FN_ 32 && Nat.beq snx_ 11) && Nat.beq t3 0) && decide (k3 = [.int .i64, .int .i64, .int .i64, .int .i64])) && Nat.beq t4 52) && Nat.beq t5 2) && Nat.beq t6 2) && Nat.beq t7 3) && Nat.beq t8 34) && Nat.beq t11 4) && Nat.beq t12 34) && Nat.beq f13 21) && Go.Rx.samePath p13_ [false, true, false, true, true, true, true]) && Nat.beq n13_ 82) : Bool) with
      | true => rfl
      | false => (rw [hq] at h_; exact h_.elim)
    rw [hN, cond_true] at h_
    simp only [Bool.and_eq_true, beq_iff, decide_eq_true_eq] at hN
    obtain ⟨⟨⟨⟨⟨⟨⟨⟨⟨⟨⟨⟨⟨rfl, rfl⟩, rfl⟩, rfl⟩, rfl⟩, rfl⟩, rfl⟩, rfl⟩, rfl⟩, rfl⟩, rfl⟩, rfl⟩, hsp_⟩, rfl⟩ := hN
    obtain rfl := samePath_ok hsp_
    obtain ⟨q0, h_⟩ := h_
    obtain rfl : m1 = (Ll.len l) := q0
    obtain ⟨q0, h_⟩ := h_
    obtain rfl : m2 = (Ll.len l) := q0
    obtain ⟨q0, h_⟩ := h_
    obtain rfl : m9 = (0 : Int) := q0
    obtain ⟨q0, h_⟩ := h_
    obtain rfl : m10 = (0 : Int) := q0
    obtain ⟨q1, h_⟩ := h_
    have q1 : (holeE l) = (0 : Int) := q1
    obtain ⟨q2, h_⟩ := h_
    have q2 : (0 : Int) ≤ u := q2
    obtain ⟨q3, h_⟩ := h_
    have q3 : u ≤ (volN l l.length) := q3
    obtain ⟨q4, h_⟩ := h_
    have q4 : w = (whereI l u) := q4
    obtain ⟨q5, h_⟩ := h_
    have q5 : i_0 = (0 : Int) := q5
    obtain ⟨q6, h_⟩ := h_
    have q6 : f_0 = (0 : Int) := q6
    obtain ⟨q7, h_⟩ := h_
    have q7 : a_0 = (0 : Int) := q7
    obtain ⟨q8, h_⟩ := h_
    have q8 : b_0 = (0 : Int) := q8
    have hs2_ := sim_frm hs_ (kt := [(5, .p 2 0), (6, .p 3 0), (7, .p 4 0), (8, .p 5 0), (9, .p 6 0), (10, .p 7 0), (11, .p 8 0)]) g13 (fun x hx => by
      simp only [List.mem_cons, List.not_mem_nil, or_false] at hx
      rcases hx with rfl | rfl | rfl | rfl | rfl | rfl | rfl
      · exact z0
      · exact z1
      · exact z2
      · exact z3
      · exact z4
      · exact z5
      · exact z6)
    replace hs2_ : Sim W_ ν_ ⟨T_, 32, Al.set M_ 10 (some (.frm 21 [false, true, false, true, true, true, true] 82 (.c 5 (some (.p 2 0)) (.c 6 (some (.p 3 0)) (.c 7 (some (.p 4 0)) (.c 8 (some (.p 5 0)) (.c 9 (some (.p 6 0)) (.c 10 (some (.p 7 0)) (.c 11 (some (.p 8 0)) .l))))))) false .normal)), 11, wr_⟩ S_ := hs2_
    refine GoC.know (s' := ⟨T_, 32, Al.set M_ 10 (some (.frm 21 [false, true, false, true, true, true, true] 82 (.c 5 (some (.p 2 0)) (.c 6 (some (.p 3 0)) (.c 7 (some (.p 4 0)) (.c 8 (some (.p 5 0)) (.c 9 (some (.p 6 0)) (.c 10 (some (.p 7 0)) (.c 11 (some (.p 8 0)) .l))))))) false .normal)), 11, wr_⟩) ⟨rfl, rfl⟩ ?_
    have w3 := (Al.get_set_ne M_ (some (.frm 21 [false, true, false, true, true, true, true] 82 (.c 5 (some (.p 2 0)) (.c 6 (some (.p 3 0)) (.c 7 (some (.p 4 0)) (.c 8 (some (.p 5 0)) (.c 9 (some (.p 6 0)) (.c 10 (some (.p 7 0)) (.c 11 (some (.p 8 0)) .l))))))) false .normal)) (show 0 ≠ 10 by decide)).trans g3
    have w4 := (Al.get_set_ne M_ (some (.frm 21 [false, true, false, true, true, true, true] 82 (.c 5 (some (.p 2 0)) (.c 6 (some (.p 3 0)) (.c 7 (some (.p 4 0)) (.c 8 (some (.p 5 0)) (.c 9 (some (.p 6 0)) (.c 10 (some (.p 7 0)) (.c 11 (some (.p 8 0)) .l))))))) false .normal)) (show 2 ≠ 10 by decide)).trans g4
    have w5 := (Al.get_set_ne M_ (some (.frm 21 [false, true, false, true, true, true, true] 82 (.c 5 (some (.p 2 0)) (.c 6 (some (.p 3 0)) (.c 7 (some (.p 4 0)) (.c 8 (some (.p 5 0)) (.c 9 (some (.p 6 0)) (.c 10 (some (.p 7 0)) (.c 11 (some (.p 8 0)) .l))))))) false .normal)) (show 3 ≠ 10 by decide)).trans g5
    have w6 := (Al.get_set_ne M_ (some (.frm 21 [false, true, false, true, true, true, true] 82 (.c 5 (some (.p 2 0)) (.c 6 (some (.p 3 0)) (.c 7 (some (.p 4 0)) (.c 8 (some (.p 5 0)) (.c 9 (some (.p 6 0)) (.c 10 (some (.p 7 0)) (.c 11 (some (.p 8 0)) .l))))))) false .normal)) (show 4 ≠ 10 by decide)).trans g6
    have w7 := (Al.get_set_ne M_ (some (.frm 21 [false, true, false, true, true, true, true] 82 (.c 5 (some (.p 2 0)) (.c 6 (some (.p 3 0)) (.c 7 (some (.p 4 0)) (.c 8 (some (.p 5 0)) (.c 9 (some (.p 6 0)) (.c 10 (some (.p 7 0)) (.c 11 (some (.p 8 0)) .l))))))) false .normal)) (show 7 ≠ 10 by decide)).trans g7
    have w10 := (Al.get_set_ne M_ (some (.frm 21 [false, true, false, true, true, true, true] 82 (.c 5 (some (.p 2 0)) (.c 6 (some (.p 3 0)) (.c 7 (some (.p 4 0)) (.c 8 (some (.p 5 0)) (.c 9 (some (.p 6 0)) (.c 10 (some (.p 7 0)) (.c 11 (some (.p 8 0)) .l))))))) false .normal)) (show 5 ≠ 10 by decide)).trans g10
    have w11 := (Al.get_set_ne M_ (some (.frm 21 [false, true, false, true, true, true, true] 82 (.c 5 (some (.p 2 0)) (.c 6 (some (.p 3 0)) (.c 7 (some (.p 4 0)) (.c 8 (some (.p 5 0)) (.c 9 (some (.p 6 0)) (.c 10 (some (.p 7 0)) (.c 11 (some (.p 8 0)) .l))))))) false .normal)) (show 6 ≠ 10 by decide)).trans g11
    have w12 := (Al.get_set_ne M_ (some (.frm 21 [false, true, false, true, true, true, true] 82 (.c 5 (some (.p 2 0)) (.c 6 (some (.p 3 0)) (.c 7 (some (.p 4 0)) (.c 8 (some (.p 5 0)) (.c 9 (some (.p 6 0)) (.c 10 (some (.p 7 0)) (.c 11 (some (.p 8 0)) .l))))))) false .normal)) (show 8 ≠ 10 by decide)).trans g12
    have w13 : (Al.set M_ 10 (some (.frm 21 [false, true, false, true, true, true, true] 82 (.c 5 (some (.p 2 0)) (.c 6 (some (.p 3 0)) (.c 7 (some (.p 4 0)) (.c 8 (some (.p 5 0)) (.c 9 (some (.p 6 0)) (.c 10 (some (.p 7 0)) (.c 11 (some (.p 8 0)) .l))))))) false .normal))).get 10 = some (.frm 21 [false, true, false, true, true, true, true] 82 (.c 5 (some (.p 2 0)) (.c 6 (some (.p 3 0)) (.c 7 (some (.p 4 0)) (.c 8 (some (.p 5 0)) (.c 9 (some (.p 6 0)) (.c 10 (some (.p 7 0)) (.c 11 (some (.p 8 0)) .l))))))) false .normal) := Al.get_set_same _ _ _
    replace h_ : cond (decide ((gI l y v q) < (Ll.len l))) (K_ .ret (hdL (bodyAt Try.prog 53 [false, true, true]) T_ (kills [] (Al.set M_ 10 (some (.frm 21 [false, true, false, true, true, true, true] 82 (.c 5 (some (.p 2 0)) (.c 6 (some (.p 3 0)) (.c 7 (some (.p 4 0)) (.c 8 (some (.p 5 0)) (.c 9 (some (.p 6 0)) (.c 10 (some (.p 7 0)) (.c 11 (some (.p 8 0)) .l))))))) false .normal)))) 32 11 [(0, .yld 10), (8, .ls false 0 (Ll.len l)), (9, .i .i64 (Ll.len l))] [(0, .list 0 [.int .i64, .int .i64, .int .i64, .int .i64] false l), (2, .row 52 [.i .i64 y, .i .i64 v]), (3, .row 2 [.i .i64 q]), (4, .row 2 [.i .i64 u]), (7, .row 3 [.i .i64 w])] [] [(5, .row 34 [.i .i64 (0 : Int), .i .i64 (0 : Int)]), (6, .row 4 [.b false]), (8, .row 34 [.i .i64 (lsA l y v q u (gI l y v q).toNat), .i .i64 (lsB l y v q u (gI l y v q).toNat)]), (10, .frm 21 [false, true, false, true, true, true, true] 82 (.c 5 (some (.p 2 0)) (.c 6 (some (.p 3 0)) (.c 7 (some (.p 4 0)) (.c 8 (some (.p 5 0)) (.c 9 (some (.p 6 0)) (.c 10 (some (.p 7 0)) (.c 11 (some (.p 8 0)) .l))))))) false .ret)] [] [] (addW ([] ++ [5, 6, 8, 10]) wr_))) (K_ (.exit 0) (hdL (bodyAt Try.prog 53 [false, true, true]) T_ (kills [] (Al.set M_ 10 (some (.frm 21 [false, true, false, true, true, true, true] 82 (.c 5 (some (.p 2 0)) (.c 6 (some (.p 3 0)) (.c 7 (some (.p 4 0)) (.c 8 (some (.p 5 0)) (.c 9 (some (.p 6 0)) (.c 10 (some (.p 7 0)) (.c 11 (some (.p 8 0)) .l))))))) false .normal)))) 32 11 [(0, .yld 10), (8, .ls false 0 (Ll.len l)), (9, .i .i64 (Ll.len l))] [(0, .list 0 [.int .i64, .int .i64, .int .i64, .int .i64] false l), (2, .row 52 [.i .i64 y, .i .i64 v]), (3, .row 2 [.i .i64 q]), (4, .row 2 [.i .i64 u]), (7, .row 3 [.i .i64 w])] [(3, .i .i64 (volN l l.length)), (10, .i .i64 (Ll.len l))] [(5, .row 34 [.i .i64 (0 : Int), .i .i64 (0 : Int)]), (6, .row 4 [.b d_0]), (8, .row 34 [.i .i64 (lsA l y v q u l.length), .i .i64 (lsB l y v q u l.length)]), (10, .frm 21 [false, true, false, true, true, true, true] 82 (.c 5 (some (.p 2 0)) (.c 6 (some (.p 3 0)) (.c 7 (some (.p 4 0)) (.c 8 (some (.p 5 0)) (.c 9 (some (.p 6 0)) (.c 10 (some (.p 7 0)) (.c 11 (some (.p 8 0)) .l))))))) false .normal)] [] [] (addW ([] ++ [5, 6, 8, 10]) wr_))) := h_
    obtain ⟨M2_, hM2_⟩ : ∃ M2_, M2_ = (Al.set M_ 10 (some (.frm 21 [false, true, false, true, true, true, true] 82 (.c 5 (some (.p 2 0)) (.c 6 (some (.p 3 0)) (.c 7 (some (.p 4 0)) (.c 8 (some (.p 5 0)) (.c 9 (some (.p 6 0)) (.c 10 (some (.p 7 0)) (.c 11 (some (.p 8 0)) .l))))))) false .normal))) := ⟨_, rfl⟩
    rw [← hM2_] at h_ hs2_ w3 w4 w5 w6 w7 w10 w11 w12 w13 ⊢
    have hx1 : (gI l y v q) < (Ll.len l) → K_ .ret (hdL (bodyAt Try.prog 53 [false, true, true]) T_ (kills [] M2_) 32 11 [(0, .yld 10), (8, .ls false 0 (Ll.len l)), (9, .i .i64 (Ll.len l))] [(0, .list 0 [.int .i64, .int .i64, .int .i64, .int .i64] false l), (2, .row 52 [.i .i64 y, .i .i64 v]), (3, .row 2 [.i .i64 q]), (4, .row 2 [.i .i64 u]), (7, .row 3 [.i .i64 w])] [] [(5, .row 34 [.i .i64 (0 : Int), .i .i64 (0 : Int)]), (6, .row 4 [.b false]), (8, .row 34 [.i .i64 (lsA l y v q u (gI l y v q).toNat), .i .i64 (lsB l y v q u (gI l y v q).toNat)]), (10, .frm 21 [false, true, false, true, true, true, true] 82 (.c 5 (some (.p 2 0)) (.c 6 (some (.p 3 0)) (.c 7 (some (.p 4 0)) (.c 8 (some (.p 5 0)) (.c 9 (some (.p 6 0)) (.c 10 (some (.p 7 0)) (.c 11 (some (.p 8 0)) .l))))))) false .ret)] [] [] (addW ([] ++ [5, 6, 8, 10]) wr_)) := fun e1 => by
      have h2 := h_
      rw [decide_eq_true e1] at h2; simp only [cond_true, cond_false] at h2; exact h2
    have hx2 : ¬ ((gI l y v q) < (Ll.len l)) → K_ (.exit 0) (hdL (bodyAt Try.prog 53 [false, true, true]) T_ (kills [] M2_) 32 11 [(0, .yld 10), (8, .ls false 0 (Ll.len l)), (9, .i .i64 (Ll.len l))] [(0, .list 0 [.int .i64, .int .i64, .int .i64, .int .i64] false l), (2, .row 52 [.i .i64 y, .i .i64 v]), (3, .row 2 [.i .i64 q]), (4, .row 2 [.i .i64 u]), (7, .row 3 [.i .i64 w])] [(3, .i .i64 (volN l l.length)), (10, .i .i64 (Ll.len l))] [(5, .row 34 [.i .i64 (0 : Int), .i .i64 (0 : Int)]), (6, .row 4 [.b d_0]), (8, .row 34 [.i .i64 (lsA l y v q u l.length), .i .i64 (lsB l y v q u l.length)]), (10, .frm 21 [false, true, false, true, true, true, true] 82 (.c 5 (some (.p 2 0)) (.c 6 (some (.p 3 0)) (.c 7 (some (.p 4 0)) (.c 8 (some (.p 5 0)) (.c 9 (some (.p 6 0)) (.c 10 (some (.p 7 0)) (.c 11 (some (.p 8 0)) .l))))))) false .normal)] [] [] (addW ([] ++ [5, 6, 8, 10]) wr_)) := fun e1 => by
      have h2 := h_
      rw [decide_eq_false e1] at h2; simp only [cond_true, cond_false] at h2; exact h2
    refine loop_ruleL (fs := fslo) (ov := true) (s := ⟨T_, 32, M2_, 11, wr_⟩) (X := Int × Int × Int × Int × Bool) (B := [5, 6, 8, 10]) (mv := []) (kt := [(0, .yld 10), (8, .ls false 0 (Ll.len l)), (9, .i .i64 (Ll.len l))]) (kr := [(0, .list 0 [.int .i64, .int .i64, .int .i64, .int .i64] false l), (2, .row 52 [.i .i64 y, .i .i64 v]), (3, .row 2 [.i .i64 q]), (4, .row 2 [.i .i64 u]), (7, .row 3 [.i .i64 w])]) (ty := []) (x := (i_0, f_0, a_0, b_0, d_0))
      (Inv := (fun x_ : Int × Int × Int × Int × Bool => match x_ with | (i, f, a, b, d) => 0 ≤ i ∧ i ≤ l.length ∧ i ≤ gI l y v q ∧ f = volN l i.toNat ∧ a = lsA l y v q u i.toNat ∧ b = lsB l y v q u i.toNat ∧ d = d_0)) (μ := (fun x_ : Int × Int × Int × Int × Bool => match x_ with | (i, f, a, b, d) => (20 - i).toNat)) (ts := tsOf [3, 10] []) (sl := (fun x_ : Int × Int × Int × Int × Bool => match x_ with | (i, f, a, b, d) => [.i .i64 f, .i .i64 i])) (bl := (fun x_ : Int × Int × Int × Int × Bool => match x_ with | (i, f, a, b, d) => [.row 34 [.i .i64 (0 : Int), .i .i64 (0 : Int)], .row 4 [.b d], .row 34 [.i .i64 a, .i .i64 b], .frm 21 [false, true, false, true, true, true, true] 82 (.c 5 (some (.p 2 0)) (.c 6 (some (.p 3 0)) (.c 7 (some (.p 4 0)) (.c 8 (some (.p 5 0)) (.c 9 (some (.p 6 0)) (.c 10 (some (.p 7 0)) (.c 11 (some (.p 8 0)) .l))))))) false .normal])) (ll := (fun x_ : Int × Int × Int × Int × Bool => match x_ with | (i, f, a, b, d) => [])) (Q := fun e_ vs_ os_ hs2_ => K_ e_ (hdL (bodyAt Try.prog 53 [false, true, true]) T_ (kills [] M2_) 32 11 [(0, .yld 10), (8, .ls false 0 (Ll.len l)), (9, .i .i64 (Ll.len l))] [(0, .list 0 [.int .i64, .int .i64, .int .i64, .int .i64] false l), (2, .row 52 [.i .i64 y, .i .i64 v]), (3, .row 2 [.i .i64 q]), (4, .row 2 [.i .i64 u]), (7, .row 3 [.i .i64 w])] (((tsOf [3, 10] []) e_).zip vs_) ([5, 6, 8, 10].zip os_) [] hs2_ (addW ([] ++ [5, 6, 8, 10]) wr_)))
      (L := LL) (U := 30) (cs := sCall Try.prog 30 (spOf spLo) noLoop 20) (call := CN Try.prog AW m_) (lp := ⟨53, false, noLoop 53⟩) (root := c0_) (p := [false, true, true])
      (show CallSOK _ _ from by
        have := sCall_ok (P := Try.prog) (d := m_ - 20) (U := 30) (lp := noLoop) (spLo_ok (ov := true) (d := m_ - 20) (by omega)) (spLo_aw (fs := fslo) (ov := true)) (noLoop_ok) (by decide) rfl 20
        rwa [show 20 + (m_ - 20) = m_ by omega] at this) (ctx_of (g := 53) (rg := false) (at_ := noLoop 53) (fun p rg f h => by cases h) hfn_ hb_ hro_) (by decide) hc_
      (by
        rintro ⟨i, f, a, b, d⟩ o ho
        simp only [List.mem_cons, List.not_mem_nil, or_false] at ho
        rcases ho with rfl | rfl | rfl | rfl
        · rfl
        · rfl
        · rfl
        · rfl)
      (fun x hx => by
        simp only [List.mem_cons, List.not_mem_nil, or_false] at hx
        rcases hx with rfl | rfl | rfl | rfl
        · exact ⟨_, w10, rfl⟩
        · exact ⟨_, w11, rfl⟩
        · exact ⟨_, w12, rfl⟩
        · exact ⟨_, w13, rfl⟩) (fun x hx => by cases hx) (fun x hx => by
        simp only [List.mem_cons, List.not_mem_nil, or_false] at hx
        rcases hx with rfl | rfl | rfl | rfl
        · simp
        · simp
        · simp
        · simp)
      (fun x hx => by
        simp only [List.mem_cons, List.not_mem_nil, or_false] at hx
        rcases hx with rfl | rfl | rfl
        · exact g0
        · exact g1
        · exact g2) (fun x hx => by
        simp only [List.mem_cons, List.not_mem_nil, or_false] at hx
        rcases hx with rfl | rfl | rfl | rfl | rfl
        · exact ⟨w3, by simp⟩
        · exact ⟨w4, by simp⟩
        · exact ⟨w5, by simp⟩
        · exact ⟨w6, by simp⟩
        · exact ⟨w7, by simp⟩) ?_ (fun _ _ _ _ _ h => h) ?_ ?_ ?_ hs2_
    · rintro ⟨i, f, a, b, d⟩ hI
      exact los_go y v q u w l i f a b d i_0 f_0 a_0 b_0 d_0 q5 q6 q7 q8 T_ (kills [] M2_) _ q1 q2 q3 q4 hI (fun i' f' a' b' d' ha hb => ⟨(i', f', a', b', d'), ha, hb, rfl, rfl, rfl⟩) (fun e1 => ⟨by simp [SO.mine], hx1 e1⟩) (fun e1 => ⟨by simp [SO.mine], hx2 e1⟩)
    · show 0 ≤ i_0 ∧ i_0 ≤ l.length ∧ i_0 ≤ gI l y v q ∧ f_0 = volN l i_0.toNat ∧ a_0 = lsA l y v q u i_0.toNat ∧ b_0 = lsB l y v q u i_0.toNat ∧ d_0 = d_0
      have p0 := hole_of q1
      have := gI_spec l y v q
      exact ⟨by omega, by omega, by omega, by rw [q5, q6]; rfl, by rw [q5, q7]; rfl, by rw [q5, q8]; rfl, rfl⟩
    · show (20 - i_0).toNat < LL
      exact Nat.lt_of_le_of_lt (show _ ≤ 1000 by omega) (by decide)
    · exact ⟨⟨[.i .i64 f_0, .i .i64 i_0], [.row 34 [.i .i64 (0 : Int), .i .i64 (0 : Int)], .row 4 [.b d_0], .row 34 [.i .i64 a_0, .i .i64 b_0], .frm 21 [false, true, false, true, true, true, true] 82 (.c 5 (some (.p 2 0)) (.c 6 (some (.p 3 0)) (.c 7 (some (.p 4 0)) (.c 8 (some (.p 5 0)) (.c 9 (some (.p 6 0)) (.c 10 (some (.p 7 0)) (.c 11 (some (.p 8 0)) .l))))))) false .normal], [], [], by simp [gets, tsOf, g0, g1, g2, w3, w4, w5, w6, w7, g8, g9, w10, w11, w12, w13], by simp [gets, g0, g1, g2, w3, w4, w5, w6, w7, g8, g9, w10, w11, w12, w13], rfl, rfl, by simp [listsOf] <;> rfl⟩⟩
  · exact h_.elim
abbrev lpLos {A : Go.Rx.Alg} : Nat → Go.Rx.LoopS A := Go.Rx.lpOf [(53, [false, true, true], false, losF)]
theorem lpLos_ok {d : Nat} (hd : 1100 ≤ d) : LoopsAll (fs := fslo) (ov := true) Try.prog AW d lpLos := lpOf_ok fun x hx => by
  simp only [List.mem_cons, List.not_mem_nil, or_false] at hx
  rcases hx with rfl
  · exact losF_ok (by omega)
theorem loss_eq (y v q u : Int) (l : Ll) (KK : KS (stdA fslo true)) : sFunc Try.prog 30 (sCall Try.prog 30 (spOf spLo) lpLos 20) lpLos 21 [.agg [.ls false 0 (Ll.len l)], .agg [.i .i64 y, .i .i64 v], .i .i64 q, .i .i64 u] (lsMem 0 [([.int .i64, .int .i64, .int .i64, .int .i64], l)]) 1 KK =
  ((Ll.len l) = (Ll.len l) ∧ (cond (decide ((holeE l) ≠ (0 : Int)))
 (KK (.tup [(.agg [(.i .i64 (0 : Int)), (.i .i64 (0 : Int))]), (.b false)]) (lsMem 0 [([.int .i64, .int .i64, .int .i64, .int .i64], l)]) 1 [])
 (cond (decide (u < (0 : Int)))
 (KK (.tup [(.agg [(.i .i64 (0 : Int)), (.i .i64 (0 : Int))]), (.b false)]) (lsMem 0 [([.int .i64, .int .i64, .int .i64, .int .i64], l)]) 1 [])
 ((Ll.len l) = (Ll.len l) ∧ (cond (decide (u > (holeV l)))
 (KK (.tup [(.agg [(.i .i64 (0 : Int)), (.i .i64 (0 : Int))]), (.b false)]) (lsMem 0 [([.int .i64, .int .i64, .int .i64, .int .i64], l)]) 1 [])
 ((Ll.len l) = (Ll.len l) ∧ ((Ll.len l) = (Ll.len l) ∧ ((Ll.len l) = (Ll.len l) ∧ ((0 : Int) = (0 : Int) ∧ ((0 : Int) = (0 : Int) ∧ ((holeE l) = (0 : Int) ∧ ((0 : Int) ≤ u ∧ (u ≤ (volN l l.length) ∧ ((whereI l u) = (whereI l u) ∧ ((0 : Int) = (0 : Int) ∧ ((0 : Int) = (0 : Int) ∧ ((0 : Int) = (0 : Int) ∧ ((0 : Int) = (0 : Int) ∧ (cond (decide ((gI l y v q) < (Ll.len l)))
 (KK (.tup [(.agg [(.i .i64 (0 : Int)), (.i .i64 (0 : Int))]), (.b false)]) (lsMem 0 [([.int .i64, .int .i64, .int .i64, .int .i64], l)]) 1 [])
 (KK (.tup [(.agg [(.i .i64 (lsA l y v q u l.length)), (.i .i64 (lsB l y v q u l.length))]), (.b true)]) (lsMem 0 [([.int .i64, .int .i64, .int .i64, .int .i64], l)]) 1 [])))))))))))))))))))) := by kernel_rfl
theorem loss_pure {m : Nat} (hm : 1200 ≤ m) {H : Hp} {nx : Nat} (y v q u : Int) {v_l : LV} {l : Ll} (hl_l : IsL H nx [.int .i64, .int .i64, .int .i64, .int .i64] l v_l) : Pure Try.prog AW m 21 [.agg [v_l], .agg [.i .i64 y, .i .i64 v], .i .i64 q, .i .i64 u] H nx (.tup [.agg [.i .i64 (lossA l y v q u), .i .i64 (lossB l y v q u)], .b (lossK l y v q u)]) := by
  obtain ⟨ν, n1, n2, n3, n4⟩ := ls_in (fs := fslo) (ov := true) (l := [([.int .i64, .int .i64, .int .i64, .int .i64], l)]) (lvs := [v_l]) 0 (fun i x lv e1 e2 => by
    cases i with
    | zero => simp at e1 e2; subst e1 e2; exact hl_l
    | succ i =>
      simp at e1) rfl
  refine pure_of (n := 20) (d := m - 21) (U := 30) (fs := fslo) (ov := true) (spLo_ok (by omega)) spLo_aw (lpLos_ok (by omega)) (by decide) (by decide) (by omega) (args := [.agg [.ls false 0 (Ll.len l)], .agg [.i .i64 y, .i .i64 v], .i .i64 q, .i .i64 u]) (M := lsMem 0 [([.int .i64, .int .i64, .int .i64, .int .i64], l)]) (snx := 1) ?_ (VSL.cons ⟨_, rfl, (VSL.cons (n4 0 _ _ rfl rfl) rfl)⟩ (VSL.cons ⟨_, rfl, (VSL.cons rfl (VSL.cons rfl rfl))⟩ (VSL.cons rfl (VSL.cons rfl rfl)))) (hs_in n2 n3)
  rw [loss_eq]
  simp only [cond_iff, cond_not, InK64]
  have hl : Ll.len l = (l.length : Int) := rfl
  have c0 : holeV l = if holeE l = 0 then volN l l.length else 0 := rfl
  have cK : lossK l y v q u = decide (holeE l = 0 ∧ 0 ≤ u ∧ u ≤ volN l l.length ∧ ¬ gI l y v q < l.length) := rfl
  have cA : lossA l y v q u = if lossK l y v q u = true then lsA l y v q u l.length else 0 := rfl
  have cB : lossB l y v q u = if lossK l y v q u = true then lsB l y v q u l.length else 0 := rfl
  by_cases hk : holeE l = 0 ∧ 0 ≤ u ∧ u ≤ volN l l.length ∧ ¬ gI l y v q < l.length
  · obtain ⟨k1, k2, k3, k4⟩ := hk
    rw [decide_eq_true ⟨k1, k2, k3, k4⟩] at cK
    rw [cK, if_pos rfl] at cA cB
    rw [if_pos k1] at c0
    rw [cK, cA, cB]
    repeat' (first | apply And.intro | intro _)
    all_goals first | trivial | contradiction | omega | exact end_v rfl
  · have cK : lossK l y v q u = false := by rw [cK]; exact decide_eq_false hk
    rw [cK, if_neg (by decide)] at cA cB
    rw [cK, cA, cB]
    by_cases k1 : holeE l = 0
    · rw [if_pos k1] at c0
      repeat' (first | exact end_v rfl | apply And.intro | intro _)
      all_goals first | trivial | contradiction | omega | (exfalso; omega)
    · repeat' (first | exact end_v rfl | apply And.intro | intro _)
      all_goals first | trivial | contradiction | omega | (exfalso; omega)
abbrev lossS {A : Go.Rx.Alg} : List (Go.Rx.SV A) → Go.Rx.SH A → Nat → Go.Rx.KS A → A.R := fun args_ M_ snx_ K_ => match args_ with
  | [.agg [x_l], .agg [.i .i64 y, .i .i64 v], .i .i64 q, .i .i64 u] => (match Go.Rx.lsArg M_ [.int .i64, .int .i64, .int .i64, .int .i64] x_l with | some (l, n_l) => (A.need .eql n_l (A.len l) (K_ (.tup [.agg [.i .i64 (A.app 14 [l] [y, v, q, u]), .i .i64 (A.app 15 [l] [y, v, q, u])], .b (A.appB 36 [l] [y, v, q, u])]) M_ snx_ [])) | none => A.fail "loss")
  | _ => A.fail "loss"
theorem lossS_ok {ov : Bool} {d : Nat} (hd : 1200 ≤ d) : SpecOK (fs := fslo) (ov := ov) Try.prog AW d 21 lossS := by
  intro m_ hm_ args_ M_ snx_ K_ h_ ν_ largs_ H_ nx_ ha_ hM_
  unfold lossS at h_
  split at h_
  · rename_i x_l y v q u
    obtain ⟨y1, r1, rfl, ⟨l1, rfl, ⟨v_l, r2, rfl, hx_l, rfl⟩⟩, ⟨y3, r3, rfl, ⟨l3, rfl, ⟨y4, r4, rfl, rfl, ⟨y5, r5, rfl, rfl, rfl⟩⟩⟩, ⟨y6, r6, rfl, rfl, ⟨y7, r7, rfl, rfl, rfl⟩⟩⟩⟩ := ha_
    split at h_
    · rename_i l n_l q_l
      obtain ⟨e_l, h_⟩ := h_
      exact pure_got (loss_pure (by omega) y v q u (lsArg_ok hM_ hx_l q_l e_l)) hM_ (v := .tup [.agg [.i .i64 _, .i .i64 _], .b _]) ⟨_, rfl, (VSL.cons ⟨_, rfl, (VSL.cons rfl (VSL.cons rfl rfl))⟩ (VSL.cons rfl rfl))⟩ h_
    · exact h_.elim
  · exact h_.elim
theorem lsl_eq (i : Int) (g : Ll) (T : Al (SV (stdA fslo true))) (M : Al (SO (stdA fslo true))) (KK : Ex → List (SV (stdA fslo true)) → List (SO (stdA fslo true)) → List Ll → Prop) : sCode Try.prog (sCall Try.prog 30 (spOf sp0) noLoop 20) ⟨7, false, noLoop 7⟩ 30 (false :: [false, true, false, true, true]) (bodyAt Try.prog 7 [false, true, false, true, true]) (hdL (bodyAt Try.prog 7 [false, true, false, true, true]) T M 148 4 [(11, .p 3 0)] [] [(12, .i .i64 i)] [(3, .row 25 [.ls true 4 (Ll.len g)])] [(42, [.int .i64, .int .i64, .int .i64, .int .i64])] [g] []) (outL 4 (tsOf [12] []) [3] [2] [(42, [.int .i64, .int .i64, .int .i64, .int .i64])] KK) =
  (cond (decide (i < (Ll.len g)))
 ((0 : Int) ≤ i ∧ (i < (Ll.len g) ∧ (i < (Ll.len g) ∧ ((100 : Int) ≠ 0 ∧ (InK .i64 ((20 : Int) + (Int.tmod (Ll.get g i 3) (100 : Int))) ∧ ((0 : Int) ≤ i ∧ (i < (Ll.len g) ∧ (i < (Ll.len g) ∧ ((0 : Int) ≤ i ∧ (i < (Ll.len g) ∧ (i < (Ll.len (Ll.set g i 3 ((20 : Int) + (Int.tmod (Ll.get g i 3) (100 : Int))))) ∧ (InK .i64 ((100 : Int) + (Ll.get (Ll.set g i 3 ((20 : Int) + (Int.tmod (Ll.get g i 3) (100 : Int)))) i 2)) ∧ ((0 : Int) ≤ i ∧ (i < (Ll.len g) ∧ (i < (Ll.len (Ll.set g i 3 ((20 : Int) + (Int.tmod (Ll.get g i 3) (100 : Int))))) ∧ (InK .i64 (i + (1 : Int)) ∧ (KK .normal [(.i .i64 (i + (1 : Int)))] [(.row 25 [(.ls true 4 (Ll.len g))])] [(Ll.set (Ll.set g i 3 ((20 : Int) + (Int.tmod (Ll.get g i 3) (100 : Int)))) i 2 ((100 : Int) + (Ll.get (Ll.set g i 3 ((20 : Int) + (Int.tmod (Ll.get g i 3) (100 : Int)))) i 2)))])))))))))))))))))
 (KK (.exit 0) [(.i .i64 i)] [(.row 25 [(.ls true 4 (Ll.len g))])] [g])) := by kernel_rfl
theorem lsl_go (i : Int) (g : Ll) (i_0 : Int) (g_0 : Ll) (r1 : i_0 = (0 : Int)) (r2 : (Ll.len g_0) ≤ (16 : Int)) (r3 : (decide (∀ r_ ∈ g_0, r_.length = 4)) = true) (r4 : (decide (∀ i_ : Nat, i_ < g_0.length → 0 ≤ Ll.get g_0 i_ 3 ∧ Ll.get g_0 i_ 3 ≤ 200 ∧ 0 ≤ Ll.get g_0 i_ 2 ∧ Ll.get g_0 i_ 2 ≤ 5000)) = true) (T : Al (SV (stdA fslo true))) (M : Al (SO (stdA fslo true))) (KK : Ex → List (SV (stdA fslo true)) → List (SO (stdA fslo true)) → List Ll → Prop) (hI : 0 ≤ i ∧ i ≤ g_0.length ∧ g = wideP g_0 i.toNat) (hn : ∀ (i' : Int) (g' : Ll), 0 ≤ i' ∧ i' ≤ g_0.length ∧ g' = wideP g_0 i'.toNat → (20 - i').toNat < (20 - i).toNat → KK .normal [.i .i64 i'] [.row 25 [.ls true 4 (Ll.len g')]] [g']) (hx1 : KK (.exit 0) [.i .i64 (Ll.len g_0)] [.row 25 [.ls true 4 (Ll.len (wideP g_0 g_0.length))]] [(wideP g_0 g_0.length)]) :
    sCode Try.prog (sCall Try.prog 30 (spOf sp0) noLoop 20) ⟨7, false, noLoop 7⟩ 30 (false :: [false, true, false, true, true]) (bodyAt Try.prog 7 [false, true, false, true, true]) (hdL (bodyAt Try.prog 7 [false, true, false, true, true]) T M 148 4 [(11, .p 3 0)] [] [(12, .i .i64 i)] [(3, .row 25 [.ls true 4 (Ll.len g)])] [(42, [.int .i64, .int .i64, .int .i64, .int .i64])] [g] []) (outL 4 (tsOf [12] []) [3] [2] [(42, [.int .i64, .int .i64, .int .i64, .int .i64])] KK) := by
  refine Eq.mpr (lsl_eq i g T M KK) ?_
  simp only [cond_iff, cond_not, InK64]
  obtain ⟨i0, i1, rfl⟩ := hI
  have hr : ∀ x ∈ g_0, x.length = 4 := of_decide_eq_true r3
  have h4 := of_decide_eq_true r4
  have hlg : Ll.len g_0 = (g_0.length : Int) := rfl
  have hl : Ll.len (wideP g_0 i.toNat) = (g_0.length : Int) := by show ((List.length _ : Nat) : Int) = _; rw [wideP_len _ (by omega)]
  by_cases h : i < g_0.length
  · have hg := wideP_get g_0 (k := i.toNat) (by omega) i.toNat
    rw [if_neg (by omega)] at hg
    have e3 : Ll.get (wideP g_0 i.toNat) i 3 = Ll.get g_0 i 3 := by unfold Ll.get; rw [hg]
    have e2 : Ll.get (wideP g_0 i.toNat) i 2 = Ll.get g_0 i 2 := by unfold Ll.get; rw [hg]
    have hb := h4 i.toNat (by omega)
    rw [Int.toNat_of_nonneg i0] at hb
    have et : Int.tmod (Ll.get (wideP g_0 i.toNat) i 3) 100 = Ll.get (wideP g_0 i.toNat) i 3 % 100 := Int.tmod_eq_emod_of_nonneg (by omega)
    have ec := get_set_ll (h := wideP g_0 i.toNat) (i := i) (j := 3) (v := 20 + Ll.get (wideP g_0 i.toNat) i 3 % 100) i0 (by have := hl; show i < ((List.length _ : Nat) : Int); rw [wideP_len _ (by omega)]; exact h) (wideP_rows hr _) (by omega) i.toNat 2
    rw [Int.toNat_of_nonneg i0, if_neg (by omega)] at ec
    have e1 : (i + 1).toNat = i.toNat + 1 := by omega
    have hN := hn (i + 1) _ ⟨by omega, by omega, rfl⟩ (by omega)
    have hl2 : Ll.len (wideP g_0 (i.toNat + 1)) = (g_0.length : Int) := by show ((List.length _ : Nat) : Int) = _; rw [wideP_len _ (by omega)]
    have hl3 : Ll.len (Ll.set (wideP g_0 i.toNat) i 3 (20 + Ll.get (wideP g_0 i.toNat) i 3 % 100)) = (g_0.length : Int) := by rw [← hl]; show ((List.length (List.set _ _ _) : Nat) : Int) = _; rw [List.length_set]; rfl
    rw [e1, hl2, ← wideP_succ hr i0 h] at hN
    rw [et, hl, hl3]
    clear hn hx1
    repeat' (first | exact hN | apply And.intro | intro _)
    all_goals first | trivial | omega
  · obtain rfl : i = g_0.length := by omega
    rw [Int.toNat_natCast] at hl ⊢
    repeat' (first | exact hx1 | apply And.intro | intro _)
    all_goals first | omega | trivial
abbrev lslF {A : Go.Rx.Alg} : Code → Go.Rx.SS A → (Go.Rx.Ex → Go.Rx.SS A → A.R) → A.R := fun c_ s_ K_ => match s_.T.get 11, s_.T.get 12, s_.H.get 3, s_.H.get 2 with
  | some (.p 3 0), some (.i .i64 i), some (.row t1 [.ls true 2 m2]), some (.list t3 k3 true g) => bif ((((Nat.beq s_.N 148 && Nat.beq s_.nx 4) && Nat.beq t1 25) && Nat.beq t3 42) && decide (k3 = [.int .i64, .int .i64, .int .i64, .int .i64])) then (A.need .eql m2 (A.len g) (A.need .eql i (A.lit 0) (A.need .leq (A.len g) (A.lit 16) (A.br (A.appB 37 [g] []) (fun _ => (A.br (A.appB 38 [g] []) (fun _ => (K_ (.exit 0) (Go.Rx.hdL c_ s_.T (Go.Rx.kills [2] s_.H) 148 4 [(11, .p 3 0)] [] [(12, .i .i64 (A.len g))] [(3, .row 25 [.ls true 4 (A.len (A.appL 52 [g] []))])] [(42, [.int .i64, .int .i64, .int .i64, .int .i64])] [(A.appL 52 [g] [])] (Go.Rx.addW ([2] ++ [3]) s_.wr)))) (fun _ => A.fail "pre"))) (fun _ => A.fail "pre"))))) else A.fail "frame of lsl"
  | _, _, _, _ => A.fail "lsl"
theorem lslF_ok {d : Nat} (hd : 100 ≤ d) : LoopOK (fs := fslo) (ov := true) Try.prog AW d 7 [false, true, false, true, true] false lslF := by
  intro m_ hm_ fn_ c0_ hfn_ hb_ c_ ro_ hro_ hc_ s_ K_ W_ ν_ S_ h_ hs_
  obtain rfl := body_of hfn_ hb_ hc_
  unfold lslF at h_
  split at h_
  · rename_i i_0_0 t1 m2_0 t3 k3 g_0_0 g0 g1 g2 g3
    obtain ⟨i_0, rfl⟩ : ∃ q : Int, q = i_0_0 := ⟨i_0_0, rfl⟩
    obtain ⟨m2, rfl⟩ : ∃ q : Int, q = m2_0 := ⟨m2_0, rfl⟩
    obtain ⟨g_0, rfl⟩ : ∃ q : Ll, q = g_0_0 := ⟨g_0_0, rfl⟩
    obtain ⟨T_, FN_, M_, snx_, wr_⟩ := s_
    have hN : ((((Nat.beq FN_ 148 && Nat.beq snx_ 4) && Nat.beq t1 25) && Nat.beq t3 42) && decide (k3 = [.int .i64, .int .i64, .int .i64, .int .i64])) = true := by
      cases hq : (((((Nat.beq FN_ 148 && Nat.beq snx_ 4) && Nat.beq t1 25) && Nat.beq t3 42) && decide (k3 = [.int .i64, .int .i64, .int .i64, .int .i64])) : Bool) with
      | true => rfl
      | false => (rw [hq] at h_; exact h_.elim)
    rw [hN, cond_true] at h_
    simp only [Bool.and_eq_true, beq_iff, decide_eq_true_eq] at hN
    obtain ⟨⟨⟨⟨rfl, rfl⟩, rfl⟩, rfl⟩, rfl⟩ := hN
    obtain ⟨q0, h_⟩ := h_
    obtain rfl : m2 = (Ll.len g_0) := q0
    obtain ⟨q1, h_⟩ := h_
    have q1 : i_0 = (0 : Int) := q1
    obtain ⟨q2, h_⟩ := h_
    have q2 : (Ll.len g_0) ≤ (16 : Int) := q2
    obtain ⟨q3, h_⟩ := br_pre (fs := fslo) (ov := true) h_
    have q3 : (decide (∀ r_ ∈ g_0, r_.length = 4)) = true := q3
    obtain ⟨q4, h_⟩ := br_pre (fs := fslo) (ov := true) h_
    have q4 : (decide (∀ i_ : Nat, i_ < g_0.length → 0 ≤ Ll.get g_0 i_ 3 ∧ Ll.get g_0 i_ 3 ≤ 200 ∧ 0 ≤ Ll.get g_0 i_ 2 ∧ Ll.get g_0 i_ 2 ≤ 5000)) = true := q4
    replace h_ : K_ (.exit 0) (hdL (bodyAt Try.prog 7 [false, true, false, true, true]) T_ (kills [2] M_) 148 4 [(11, .p 3 0)] [] [(12, .i .i64 (Ll.len g_0))] [(3, .row 25 [.ls true 4 (Ll.len (wideP g_0 g_0.length))])] [(42, [.int .i64, .int .i64, .int .i64, .int .i64])] [(wideP g_0 g_0.length)] (addW ([2] ++ [3]) wr_)) := h_
    have hx1 : K_ (.exit 0) (hdL (bodyAt Try.prog 7 [false, true, false, true, true]) T_ (kills [2] M_) 148 4 [(11, .p 3 0)] [] [(12, .i .i64 (Ll.len g_0))] [(3, .row 25 [.ls true 4 (Ll.len (wideP g_0 g_0.length))])] [(42, [.int .i64, .int .i64, .int .i64, .int .i64])] [(wideP g_0 g_0.length)] (addW ([2] ++ [3]) wr_)) := by
      have h2 := h_
      exact h2
    refine loop_ruleL (fs := fslo) (ov := true) (s := ⟨T_, 148, M_, 4, wr_⟩) (X := Int × Ll) (B := [3]) (mv := [2]) (kt := [(11, .p 3 0)]) (kr := []) (ty := [(42, [.int .i64, .int .i64, .int .i64, .int .i64])]) (x := (i_0, g_0))
      (Inv := (fun x_ : Int × Ll => match x_ with | (i, g) => 0 ≤ i ∧ i ≤ g_0.length ∧ g = wideP g_0 i.toNat)) (μ := (fun x_ : Int × Ll => match x_ with | (i, g) => (20 - i).toNat)) (ts := tsOf [12] []) (sl := (fun x_ : Int × Ll => match x_ with | (i, g) => [.i .i64 i])) (bl := (fun x_ : Int × Ll => match x_ with | (i, g) => [.row 25 [.ls true 4 (Ll.len g)]])) (ll := (fun x_ : Int × Ll => match x_ with | (i, g) => [g])) (Q := fun e_ vs_ os_ hs_ => K_ e_ (hdL (bodyAt Try.prog 7 [false, true, false, true, true]) T_ (kills [2] M_) 148 4 [(11, .p 3 0)] [] (((tsOf [12] []) e_).zip vs_) ([3].zip os_) [(42, [.int .i64, .int .i64, .int .i64, .int .i64])] hs_ (addW ([2] ++ [3]) wr_)))
      (L := LL) (U := 30) (cs := sCall Try.prog 30 (spOf sp0) noLoop 20) (call := CN Try.prog AW m_) (lp := ⟨7, false, noLoop 7⟩) (root := c0_) (p := [false, true, false, true, true])
      (show CallSOK _ _ from by
        have := sCall_ok (P := Try.prog) (d := m_ - 20) (U := 30) (lp := noLoop) (sp0_ok (fs := fslo) (ov := true) (d := m_ - 20)) (sp0_aw (fs := fslo) (ov := true)) (noLoop_ok) (by decide) rfl 20
        rwa [show 20 + (m_ - 20) = m_ by omega] at this) (ctx_of (g := 7) (rg := false) (at_ := noLoop 7) (fun p rg f h => by cases h) hfn_ hb_ hro_) (by decide) hc_
      (by
        rintro ⟨i, g⟩ o ho
        simp only [List.mem_cons, List.not_mem_nil, or_false] at ho
        rcases ho with rfl
        · rfl)
      (fun x hx => by
        simp only [List.mem_cons, List.not_mem_nil, or_false] at hx
        rcases hx with rfl
        · exact ⟨_, g2, rfl⟩) (fun x hx => by
        simp only [List.mem_cons, List.not_mem_nil, or_false] at hx
        rcases hx with rfl
        · exact ⟨_, g3, rfl⟩) (fun x hx => by
        simp only [List.mem_cons, List.not_mem_nil, or_false] at hx
        rcases hx with rfl
        · simp)
      (fun x hx => by
        simp only [List.mem_cons, List.not_mem_nil, or_false] at hx
        rcases hx with rfl
        · exact g0) (fun x hx => by cases hx) ?_ (fun _ _ _ _ _ h => h) ?_ ?_ ?_ hs_
    · rintro ⟨i, g⟩ hI
      exact lsl_go i g i_0 g_0 q1 q2 q3 q4 T_ (kills [2] M_) _  hI (fun i' g' ha hb => ⟨(i', g'), ha, hb, rfl, rfl, rfl⟩) (⟨by simp [SO.mine], hx1⟩)
    · show 0 ≤ i_0 ∧ i_0 ≤ g_0.length ∧ g_0 = wideP g_0 i_0.toNat
      exact ⟨by omega, by omega, by rw [q1]; exact (wideP_zero _).symm⟩
    · show (20 - i_0).toNat < LL
      exact Nat.lt_of_le_of_lt (show _ ≤ 1000 by omega) (by decide)
    · exact ⟨⟨[.i .i64 i_0], [.row 25 [.ls true 2 (Ll.len g_0)]], [], [some 2], by simp [gets, tsOf, g0, g1, g2, g3], by simp [gets, g0, g1, g2, g3], rfl, rfl, by simp [listsOf, g3] <;> rfl⟩⟩
  · exact h_.elim
abbrev lpLsl {A : Go.Rx.Alg} : Nat → Go.Rx.LoopS A := Go.Rx.lpOf [(7, [false, true, false, true, true], false, lslF)]
theorem lpLsl_ok {d : Nat} (hd : 100 ≤ d) : LoopsAll (fs := fslo) (ov := true) Try.prog AW d lpLsl := lpOf_ok fun x hx => by
  simp only [List.mem_cons, List.not_mem_nil, or_false] at hx
  rcases hx with rfl
  · exact lslF_ok (by omega)
abbrev spLl {A : Go.Rx.Alg} : Go.Rx.SpL A := [(AW, Go.Rx.awakeS), (9, oannS), (12, om64S), (20, ovolS), (21, lossS)]
theorem spLl_ok {ov : Bool} {d : Nat} (hd : 1200 ≤ d) : SpOK (fs := fslo) (ov := ov) Try.prog AW d spLl := SpOK.cons awake_ok (SpOK.cons (oannS_ok (by omega)) (SpOK.cons (om64S_ok (by omega)) (SpOK.cons (ovolS_ok (by omega)) (SpOK.cons (lossS_ok (by omega)) SpOK.nil))))
theorem spLl_aw {fs : Fs} {ov : Bool} : (spOf (A := stdA fs ov) spLl AW).isSome = true := rfl
theorem losses_eq (y v q u h : Int) (x : Ll) (KK : KS (stdA fslo true)) : sFunc Try.prog 30 (sCall Try.prog 30 (spOf spLl) lpLsl 20) lpLsl 7 [.ls false 0 (Ll.len x), .agg [.i .i64 y, .i .i64 v], .i .i64 q, .i .i64 u, .i .i64 h] (lsMem 0 [([.int .i64], x)]) 1 KK =
  ((Ll.len x) = (Ll.len x) ∧ ((Ll.len (annL x)) = (Ll.len (annL x)) ∧ ((0 : Int) = (0 : Int) ∧ ((Ll.len (annL x)) ≤ (16 : Int) ∧ (cond (decide (∀ r_ ∈ (annL x), r_.length = 4))
 (cond (decide (∀ i_ : Nat, i_ < (annL x).length → 0 ≤ Ll.get (annL x) i_ 3 ∧ Ll.get (annL x) i_ 3 ≤ 200 ∧ 0 ≤ Ll.get (annL x) i_ 2 ∧ Ll.get (annL x) i_ 2 ≤ 5000))
 ((1 : Int) ≤ (2000 : Int) ∧ ((2000 : Int) ≤ (9223372036854775807 : Int) ∧ ((1 : Int) ≤ (500 : Int) ∧ ((500 : Int) ≤ (9223372036854775807 : Int) ∧ (InK .i64 ((1 : Int) + (v % (500 : Int))) ∧ ((1 : Int) ≤ (50000 : Int) ∧ ((50000 : Int) ≤ (9223372036854775807 : Int) ∧ ((Ll.len (wideP (annL x) (annL x).length)) = (Ll.len (wideP (annL x) (annL x).length)) ∧ (cond (decide ((holeV (wideP (annL x) (annL x).length)) < (100 : Int)))
 (KK (.b false) (lsMem 0 [([.int .i64], x)]) 1 [])
 (InK .i64 ((holeV (wideP (annL x) (annL x).length)) + (1 : Int)) ∧ ((1 : Int) ≤ ((holeV (wideP (annL x) (annL x).length)) + (1 : Int)) ∧ (((holeV (wideP (annL x) (annL x).length)) + (1 : Int)) ≤ (9223372036854775807 : Int) ∧ (InK .i64 ((holeV (wideP (annL x) (annL x).length)) - (u % ((holeV (wideP (annL x) (annL x).length)) + (1 : Int)))) ∧ (InK .i64 (((holeV (wideP (annL x) (annL x).length)) - (u % ((holeV (wideP (annL x) (annL x).length)) + (1 : Int)))) + (1 : Int)) ∧ ((1 : Int) ≤ (((holeV (wideP (annL x) (annL x).length)) - (u % ((holeV (wideP (annL x) (annL x).length)) + (1 : Int)))) + (1 : Int)) ∧ ((((holeV (wideP (annL x) (annL x).length)) - (u % ((holeV (wideP (annL x) (annL x).length)) + (1 : Int)))) + (1 : Int)) ≤ (9223372036854775807 : Int) ∧ (InK .i64 ((u % ((holeV (wideP (annL x) (annL x).length)) + (1 : Int))) + (h % (((holeV (wideP (annL x) (annL x).length)) - (u % ((holeV (wideP (annL x) (annL x).length)) + (1 : Int)))) + (1 : Int)))) ∧ ((Ll.len (wideP (annL x) (annL x).length)) = (Ll.len (wideP (annL x) (annL x).length)) ∧ ((Ll.len (wideP (annL x) (annL x).length)) = (Ll.len (wideP (annL x) (annL x).length)) ∧ ((Ll.len (wideP (annL x) (annL x).length)) = (Ll.len (wideP (annL x) (annL x).length)) ∧ (cond (!((lossK (wideP (annL x) (annL x).length) (y % (2000 : Int)) ((1 : Int) + (v % (500 : Int))) (q % (50000 : Int)) (u % ((holeV (wideP (annL x) (annL x).length)) + (1 : Int)))) == (lossK (wideP (annL x) (annL x).length) (y % (2000 : Int)) ((1 : Int) + (v % (500 : Int))) (q % (50000 : Int)) ((u % ((holeV (wideP (annL x) (annL x).length)) + (1 : Int))) + (h % (((holeV (wideP (annL x) (annL x).length)) - (u % ((holeV (wideP (annL x) (annL x).length)) + (1 : Int)))) + (1 : Int)))))))
 (KK (.b false) (lsMem 0 [([.int .i64], x)]) 1 [])
 (cond (!((lossK (wideP (annL x) (annL x).length) (y % (2000 : Int)) ((1 : Int) + (v % (500 : Int))) (q % (50000 : Int)) (u % ((holeV (wideP (annL x) (annL x).length)) + (1 : Int)))) == (lossK (wideP (annL x) (annL x).length) (y % (2000 : Int)) ((1 : Int) + (v % (500 : Int))) (q % (50000 : Int)) (holeV (wideP (annL x) (annL x).length)))))
 (KK (.b false) (lsMem 0 [([.int .i64], x)]) 1 [])
 (cond (!(lossK (wideP (annL x) (annL x).length) (y % (2000 : Int)) ((1 : Int) + (v % (500 : Int))) (q % (50000 : Int)) (u % ((holeV (wideP (annL x) (annL x).length)) + (1 : Int)))))
 (KK (.b true) (lsMem 0 [([.int .i64], x)]) 1 [])
 (cond (decide ((lossA (wideP (annL x) (annL x).length) (y % (2000 : Int)) ((1 : Int) + (v % (500 : Int))) (q % (50000 : Int)) (u % ((holeV (wideP (annL x) (annL x).length)) + (1 : Int)))) ≥ (lossA (wideP (annL x) (annL x).length) (y % (2000 : Int)) ((1 : Int) + (v % (500 : Int))) (q % (50000 : Int)) ((u % ((holeV (wideP (annL x) (annL x).length)) + (1 : Int))) + (h % (((holeV (wideP (annL x) (annL x).length)) - (u % ((holeV (wideP (annL x) (annL x).length)) + (1 : Int)))) + (1 : Int)))))))
 (cond (decide ((lossB (wideP (annL x) (annL x).length) (y % (2000 : Int)) ((1 : Int) + (v % (500 : Int))) (q % (50000 : Int)) (u % ((holeV (wideP (annL x) (annL x).length)) + (1 : Int)))) ≥ (lossB (wideP (annL x) (annL x).length) (y % (2000 : Int)) ((1 : Int) + (v % (500 : Int))) (q % (50000 : Int)) ((u % ((holeV (wideP (annL x) (annL x).length)) + (1 : Int))) + (h % (((holeV (wideP (annL x) (annL x).length)) - (u % ((holeV (wideP (annL x) (annL x).length)) + (1 : Int)))) + (1 : Int)))))))
 (cond (decide ((lossA (wideP (annL x) (annL x).length) (y % (2000 : Int)) ((1 : Int) + (v % (500 : Int))) (q % (50000 : Int)) (u % ((holeV (wideP (annL x) (annL x).length)) + (1 : Int)))) ≤ (lossB (wideP (annL x) (annL x).length) (y % (2000 : Int)) ((1 : Int) + (v % (500 : Int))) (q % (50000 : Int)) (u % ((holeV (wideP (annL x) (annL x).length)) + (1 : Int))))))
 (cond (decide ((lossA (wideP (annL x) (annL x).length) (y % (2000 : Int)) ((1 : Int) + (v % (500 : Int))) (q % (50000 : Int)) ((u % ((holeV (wideP (annL x) (annL x).length)) + (1 : Int))) + (h % (((holeV (wideP (annL x) (annL x).length)) - (u % ((holeV (wideP (annL x) (annL x).length)) + (1 : Int)))) + (1 : Int))))) ≥ (0 : Int)))
 (cond ((decide ((lossA (wideP (annL x) (annL x).length) (y % (2000 : Int)) ((1 : Int) + (v % (500 : Int))) (q % (50000 : Int)) (holeV (wideP (annL x) (annL x).length))) = (0 : Int))) && (decide ((lossB (wideP (annL x) (annL x).length) (y % (2000 : Int)) ((1 : Int) + (v % (500 : Int))) (q % (50000 : Int)) (holeV (wideP (annL x) (annL x).length))) = (0 : Int))))
 (KK (.b true) (lsMem 0 [([.int .i64], x)]) 1 [])
 (KK (.b false) (lsMem 0 [([.int .i64], x)]) 1 []))
 (KK (.b false) (lsMem 0 [([.int .i64], x)]) 1 []))
 (KK (.b false) (lsMem 0 [([.int .i64], x)]) 1 []))
 (KK (.b false) (lsMem 0 [([.int .i64], x)]) 1 []))
 (KK (.b false) (lsMem 0 [([.int .i64], x)]) 1 [])))))))))))))))))))))))))
 False)
 False))))) := by kernel_rfl
theorem losses_pure {m : Nat} (hm : 1300 ≤ m) {H : Hp} {nx : Nat} (y v q u h : Int) {v_x : LV} {x : Ll} (hl_x : IsL H nx [.int .i64] x v_x) : Pure Try.prog AW m 7 [v_x, .agg [.i .i64 y, .i .i64 v], .i .i64 q, .i .i64 u, .i .i64 h] H nx (.b true) := by
  obtain ⟨ν, n1, n2, n3, n4⟩ := ls_in (fs := fslo) (ov := true) (l := [([.int .i64], x)]) (lvs := [v_x]) 0 (fun i x lv e1 e2 => by
    cases i with
    | zero => simp at e1 e2; subst e1 e2; exact hl_x
    | succ i =>
      simp at e1) rfl
  refine pure_of (n := 20) (d := m - 21) (U := 30) (fs := fslo) (ov := true) (spLl_ok (by omega)) spLl_aw (lpLsl_ok (by omega)) (by decide) (by decide) (by omega) (args := [.ls false 0 (Ll.len x), .agg [.i .i64 y, .i .i64 v], .i .i64 q, .i .i64 u, .i .i64 h]) (M := lsMem 0 [([.int .i64], x)]) (snx := 1) ?_ (VSL.cons (n4 0 _ _ rfl rfl) (VSL.cons ⟨_, rfl, (VSL.cons rfl (VSL.cons rfl rfl))⟩ (VSL.cons rfl (VSL.cons rfl (VSL.cons rfl rfl))))) (hs_in n2 n3)
  rw [losses_eq]
  have d1 : decide (∀ r ∈ annL x, r.length = 4) = true := decide_eq_true (annL_rows x)
  have d2 : decide (∀ i : Nat, i < (annL x).length → 0 ≤ Ll.get (annL x) i 3 ∧ Ll.get (annL x) i 3 ≤ 200 ∧ 0 ≤ Ll.get (annL x) i 2 ∧ Ll.get (annL x) i 2 ≤ 5000) = true := decide_eq_true fun i hi => by
    have := (ann_ok x).at (i := i) (by omega) (by omega)
    omega
  rw [d1, d2]
  simp only [cond_true]
  have hla : Ll.len (annL x) = ((annL x).length : Int) := rfl
  have hlb := (ann_ok x).len
  have ew : wideP (annL x) (annL x).length = wideL x := rfl
  rw [ew]
  have p0 := wide_ok x
  have big := wide_big x
  have hz := hole_zero p0
  clear d1 d2 ew
  generalize wideL x = l at *
  have hl : Ll.len l = (l.length : Int) := rfl
  have hlen := p0.len
  have eV : holeV l = volN l l.length := by unfold holeV; rw [if_pos hz]
  rw [eV]
  have hb := p0.b (n := l.length) (Nat.le_refl _)
  have m0 := Int.emod_nonneg u (show volN l l.length + 1 ≠ 0 by omega)
  have m1 := Int.emod_lt_of_pos u (show 0 < volN l l.length + 1 by omega)
  have v0 := Int.emod_nonneg v (show (500 : Int) ≠ 0 by omega)
  have v1 := Int.emod_lt_of_pos v (show (0 : Int) < 500 by omega)
  have n0 := Int.emod_nonneg h (show volN l l.length - u % (volN l l.length + 1) + 1 ≠ 0 by omega)
  have n1 := Int.emod_lt_of_pos h (show 0 < volN l l.length - u % (volN l l.length + 1) + 1 by omega)
  generalize v % 500 = v' at *
  generalize y % 2000 = y' at *
  generalize q % 50000 = q' at *
  generalize hu : u % (volN l l.length + 1) = u' at *
  generalize h % (volN l l.length - u' + 1) = h' at *
  have K : ∀ w, 0 ≤ w → w ≤ volN l l.length → lossK l y' (1 + v') q' w = decide (¬ gI l y' (1 + v') q' < l.length) := fun w w0 w1 => by
    unfold lossK
    congr 1
    exact propext ⟨fun h => h.2.2.2, fun h => ⟨hz, w0, w1, h⟩⟩
  have ke1 := K u' (by omega) (by omega)
  have ke2 := K (u' + h') (by omega) (by omega)
  have ke3 := K (volN l l.length) (by omega) (by omega)
  have A : ∀ w, lossA l y' (1 + v') q' w = if lossK l y' (1 + v') q' w = true then lsA l y' (1 + v') q' w l.length else 0 := fun _ => rfl
  have B : ∀ w, lossB l y' (1 + v') q' w = if lossK l y' (1 + v') q' w = true then lsB l y' (1 + v') q' w l.length else 0 := fun _ => rfl
  have a1 := ls_anti p0 y' (1 + v') q' (show u' ≤ u' + h' by omega) l.length (Nat.le_refl _)
  have b1 := ls_b p0 y' (1 + v') q' u' l.length (Nat.le_refl _)
  have b2 := ls_b p0 y' (1 + v') q' (u' + h') l.length (Nat.le_refl _)
  have c1 := ls_top p0 y' (1 + v') q' (Int.le_refl (volN l l.length)) l.length (Nat.le_refl _)
  rw [A, B, A, B, A, B, ke1, ke2, ke3]
  cases hk : decide (¬ gI l y' (1 + v') q' < l.length) with
  | false =>
    simp only [cond_iff, cond_not, InK64, beq_self_eq_true, Bool.not_true, Bool.not_false, cond_true, cond_false]
    repeat' (first | exact end_b rfl | apply And.intro | intro _)
    all_goals first | trivial | omega
  | true =>
    simp only [if_pos, cond_iff, cond_not, InK64, beq_self_eq_true, Bool.not_true, Bool.not_false, cond_true, cond_false]
    rw [c1.1, c1.2]
    simp only [decide_true, Bool.and_self, cond_true]
    repeat' (first | exact end_b rfl | apply And.intro | intro _)
    all_goals first | trivial | omega | (exfalso; omega)
end Go.Proofs.Ytfjilbjofaommaa
