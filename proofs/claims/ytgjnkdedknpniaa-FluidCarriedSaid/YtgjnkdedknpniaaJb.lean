/-
  Layer 3: FluidCarried's call.
-/
import Derived.Test.YtgjnkdedknpniaaJa
set_option linter.unusedSimpArgs false
set_option linter.unusedVariables false
set_option maxRecDepth 100000
namespace Go.Proofs.Ytgjnkdedknpniaa
open Go Go.Rx

theorem load_is {a b c e f g h : Int} (hs : 1 ≤ a ∧ a ≤ 100000 ∧ 0 ≤ b ∧ b ≤ a ∧ 1 ≤ c ∧ c ≤ 1500 ∧ 1 ≤ e ∧ e ≤ 200) (f0 : 0 ≤ f) (f1 : f < 10000) (g0 : 0 ≤ g) (g1 : g ≤ 1000000) (h0 : 0 ≤ h) (h1 : h < 300) : loadOk a b c e f g h = (h * c < g) := by
  unfold loadOk
  apply propext
  constructor
  · rintro ⟨_, _, _, _, _, _, _, h⟩; omega
  · intro h; exact ⟨⟨by omega, by omega, by omega, by omega, by omega, by omega, by omega, by omega⟩, by omega, by omega, by omega, by omega, by omega, by omega, by omega⟩
theorem loadI_b {a b c e f g h : Int} (hf : 0 ≤ f) : 0 ≤ loadI a b c e f g h ∧ loadI a b c e f g h ≤ 1000 := by
  unfold loadI
  split
  · rename_i ho
    have := cdiv_nonneg (a := 1000 * f) (q := g - h * c) (by omega) ho.2.2.2.2.2.2.2
    unfold minL
    by_cases hq : cdiv (1000 * f) (g - h * c) < 1000 <;> simp [hq] <;> omega
  · omega
theorem loadI_anti {a b c e f g h k : Int} (hf : 0 ≤ f) (ho : loadOk a b c e f g h) (ho' : loadOk a b c e f (g + k) h) (hk : 0 ≤ k) : loadI a b c e f (g + k) h ≤ loadI a b c e f g h := by
  unfold loadI
  rw [if_pos ho, if_pos ho']
  have h1 := ho.2.2.2.2.2.2.2
  have := cdiv_anti (a := 1000 * f) (b := 1000 * f) (p := g - h * c) (q := g + k - h * c) (by omega) (by omega) h1 (by omega)
  unfold minL
  by_cases hq : cdiv (1000 * f) (g - h * c) < 1000 <;> by_cases hq' : cdiv (1000 * f) (g + k - h * c) < 1000 <;> simp [hq, hq'] <;> omega
theorem mixed_is {w r l : Int} (w0 : 0 ≤ w) (w1 : w < 30000) (r0 : w ≤ r) (r1 : r ≤ w + 10000) (l0 : 0 ≤ l) (l1 : l ≤ 1000) : w ≤ mixedI w r l ∧ mixedI w r l ≤ r ∧ mixedI w r 0 = w ∧ mixedI w r 1000 = r := by
  unfold mixedI
  rw [if_pos ⟨by omega, by omega, by omega, by omega, by omega, by omega⟩, if_pos ⟨by omega, by omega, by omega, by omega, by omega, by omega⟩, if_pos ⟨by omega, by omega, by omega, by omega, by omega, by omega⟩]
  have b := mul_bound (show 0 ≤ r - w by omega) (Int.le_refl _) l0 l1
  have c0 := cdiv_nonneg (q := 1000) b.1 (by omega)
  have c1 := cdiv_le (a := (r - w) * l) (q := 1000) (c := r - w) (by omega) (by omega)
  have e0 : cdiv ((r - w) * 0) 1000 = 0 := by simp [cdiv]
  have e1 : cdiv ((r - w) * 1000) 1000 = r - w := by unfold cdiv; omega
  exact ⟨by omega, by omega, by omega, by omega⟩
abbrev spC {A : Go.Rx.Alg} : Go.Rx.SpL A := [(AW, Go.Rx.awakeS), (45, m64S), (43, annulusS), (39, ldS), (41, mixS)]
theorem spC_ok {ov : Bool} {d : Nat} (hd : 400 ≤ d) : SpOK (fs := fsj) (ov := ov) Try.prog AW d spC := SpOK.cons awake_ok (SpOK.cons (m64S_ok (by omega)) (SpOK.cons (annulusS_ok (by omega)) (SpOK.cons (ldS_ok (by omega)) (SpOK.cons (mixS_ok (by omega)) SpOK.nil))))
theorem spC_aw {fs : Fs} {ov : Bool} : (spOf (A := stdA fs ov) spC AW).isSome = true := rfl
theorem carried_eq (feed flow slip more weight rock : Int) (x : Ll) (KK : KS (stdA fsj true)) : sFunc Try.prog 30 (sCall Try.prog 30 (spOf spC) noLoop 20) noLoop 13 [.ls false 0 (Ll.len x), .i .i64 feed, .i .i64 flow, .i .i64 slip, .i .i64 more, .i .i64 weight, .i .i64 rock] (lsMem 0 [([.int .i64], x)]) 1 KK =
  ((Ll.len x) = (Ll.len x) ∧ ((0 : Int) ≤ (0 : Int) ∧ ((0 : Int) < (Ll.len (annL x)) ∧ ((0 : Int) < (Ll.len (annL x)) ∧ ((1 : Int) ≤ (10000 : Int) ∧ ((10000 : Int) ≤ (9223372036854775807 : Int) ∧ ((1 : Int) ≤ (500000 : Int) ∧ ((500000 : Int) ≤ (9223372036854775807 : Int) ∧ ((1 : Int) ≤ (300 : Int) ∧ ((300 : Int) ≤ (9223372036854775807 : Int) ∧ ((1 : Int) ≤ (500000 : Int) ∧ ((500000 : Int) ≤ (9223372036854775807 : Int) ∧ ((1 : Int) ≤ (30000 : Int) ∧ ((30000 : Int) ≤ (9223372036854775807 : Int) ∧ ((1 : Int) ≤ (10001 : Int) ∧ ((10001 : Int) ≤ (9223372036854775807 : Int) ∧ (InK .i64 ((weight % (30000 : Int)) + (rock % (10001 : Int))) ∧ (InK .i64 ((flow % (500000 : Int)) + (more % (500000 : Int))) ∧ (InK .i64 ((slip % (300 : Int)) * (Ll.get (annL x) (0 : Int) 2)) ∧ (cond (!((decide (loadOk (Ll.get (annL x) (0 : Int) 0) (Ll.get (annL x) (0 : Int) 1) (Ll.get (annL x) (0 : Int) 2) (Ll.get (annL x) (0 : Int) 3) (feed % (10000 : Int)) (flow % (500000 : Int)) (slip % (300 : Int)))) == (decide ((flow % (500000 : Int)) > ((slip % (300 : Int)) * (Ll.get (annL x) (0 : Int) 2))))))
 (KK (.b false) (lsMem 0 [([.int .i64], x)]) 1 [])
 (cond (decide (loadOk (Ll.get (annL x) (0 : Int) 0) (Ll.get (annL x) (0 : Int) 1) (Ll.get (annL x) (0 : Int) 2) (Ll.get (annL x) (0 : Int) 3) (feed % (10000 : Int)) (flow % (500000 : Int)) (slip % (300 : Int))))
 (cond (!(decide (loadOk (Ll.get (annL x) (0 : Int) 0) (Ll.get (annL x) (0 : Int) 1) (Ll.get (annL x) (0 : Int) 2) (Ll.get (annL x) (0 : Int) 3) (feed % (10000 : Int)) ((flow % (500000 : Int)) + (more % (500000 : Int))) (slip % (300 : Int)))))
 (KK (.b false) (lsMem 0 [([.int .i64], x)]) 1 [])
 (cond (decide ((loadI (Ll.get (annL x) (0 : Int) 0) (Ll.get (annL x) (0 : Int) 1) (Ll.get (annL x) (0 : Int) 2) (Ll.get (annL x) (0 : Int) 3) (feed % (10000 : Int)) ((flow % (500000 : Int)) + (more % (500000 : Int))) (slip % (300 : Int))) > (loadI (Ll.get (annL x) (0 : Int) 0) (Ll.get (annL x) (0 : Int) 1) (Ll.get (annL x) (0 : Int) 2) (Ll.get (annL x) (0 : Int) 3) (feed % (10000 : Int)) (flow % (500000 : Int)) (slip % (300 : Int)))))
 (KK (.b false) (lsMem 0 [([.int .i64], x)]) 1 [])
 (cond (decide ((loadI (Ll.get (annL x) (0 : Int) 0) (Ll.get (annL x) (0 : Int) 1) (Ll.get (annL x) (0 : Int) 2) (Ll.get (annL x) (0 : Int) 3) (feed % (10000 : Int)) (flow % (500000 : Int)) (slip % (300 : Int))) < (0 : Int)))
 (KK (.b false) (lsMem 0 [([.int .i64], x)]) 1 [])
 (cond (decide ((loadI (Ll.get (annL x) (0 : Int) 0) (Ll.get (annL x) (0 : Int) 1) (Ll.get (annL x) (0 : Int) 2) (Ll.get (annL x) (0 : Int) 3) (feed % (10000 : Int)) (flow % (500000 : Int)) (slip % (300 : Int))) > (1000 : Int)))
 (KK (.b false) (lsMem 0 [([.int .i64], x)]) 1 [])
 (cond (decide ((mixedI (weight % (30000 : Int)) ((weight % (30000 : Int)) + (rock % (10001 : Int))) (loadI (Ll.get (annL x) (0 : Int) 0) (Ll.get (annL x) (0 : Int) 1) (Ll.get (annL x) (0 : Int) 2) (Ll.get (annL x) (0 : Int) 3) (feed % (10000 : Int)) (flow % (500000 : Int)) (slip % (300 : Int)))) ≥ (weight % (30000 : Int))))
 (cond (decide ((mixedI (weight % (30000 : Int)) ((weight % (30000 : Int)) + (rock % (10001 : Int))) (loadI (Ll.get (annL x) (0 : Int) 0) (Ll.get (annL x) (0 : Int) 1) (Ll.get (annL x) (0 : Int) 2) (Ll.get (annL x) (0 : Int) 3) (feed % (10000 : Int)) (flow % (500000 : Int)) (slip % (300 : Int)))) ≤ ((weight % (30000 : Int)) + (rock % (10001 : Int)))))
 (cond (decide ((mixedI (weight % (30000 : Int)) ((weight % (30000 : Int)) + (rock % (10001 : Int))) (0 : Int)) = (weight % (30000 : Int))))
 (cond (decide ((mixedI (weight % (30000 : Int)) ((weight % (30000 : Int)) + (rock % (10001 : Int))) (1000 : Int)) = ((weight % (30000 : Int)) + (rock % (10001 : Int)))))
 (KK (.b true) (lsMem 0 [([.int .i64], x)]) 1 [])
 (KK (.b false) (lsMem 0 [([.int .i64], x)]) 1 []))
 (KK (.b false) (lsMem 0 [([.int .i64], x)]) 1 []))
 (KK (.b false) (lsMem 0 [([.int .i64], x)]) 1 []))
 (KK (.b false) (lsMem 0 [([.int .i64], x)]) 1 []))))))
 (cond (decide ((mixedI (weight % (30000 : Int)) ((weight % (30000 : Int)) + (rock % (10001 : Int))) (loadI (Ll.get (annL x) (0 : Int) 0) (Ll.get (annL x) (0 : Int) 1) (Ll.get (annL x) (0 : Int) 2) (Ll.get (annL x) (0 : Int) 3) (feed % (10000 : Int)) (flow % (500000 : Int)) (slip % (300 : Int)))) ≥ (weight % (30000 : Int))))
 (cond (decide ((mixedI (weight % (30000 : Int)) ((weight % (30000 : Int)) + (rock % (10001 : Int))) (loadI (Ll.get (annL x) (0 : Int) 0) (Ll.get (annL x) (0 : Int) 1) (Ll.get (annL x) (0 : Int) 2) (Ll.get (annL x) (0 : Int) 3) (feed % (10000 : Int)) (flow % (500000 : Int)) (slip % (300 : Int)))) ≤ ((weight % (30000 : Int)) + (rock % (10001 : Int)))))
 (cond (decide ((mixedI (weight % (30000 : Int)) ((weight % (30000 : Int)) + (rock % (10001 : Int))) (0 : Int)) = (weight % (30000 : Int))))
 (cond (decide ((mixedI (weight % (30000 : Int)) ((weight % (30000 : Int)) + (rock % (10001 : Int))) (1000 : Int)) = ((weight % (30000 : Int)) + (rock % (10001 : Int)))))
 (KK (.b true) (lsMem 0 [([.int .i64], x)]) 1 [])
 (KK (.b false) (lsMem 0 [([.int .i64], x)]) 1 []))
 (KK (.b false) (lsMem 0 [([.int .i64], x)]) 1 []))
 (KK (.b false) (lsMem 0 [([.int .i64], x)]) 1 []))
 (KK (.b false) (lsMem 0 [([.int .i64], x)]) 1 []))))))))))))))))))))))) := by kernel_rfl
theorem carried_pure {m : Nat} (hm : 500 ≤ m) {H : Hp} {nx : Nat} (feed flow slip more weight rock : Int) {v_x : LV} {x : Ll} (hl_x : IsL H nx [.int .i64] x v_x) : Pure Try.prog AW m 13 [v_x, .i .i64 feed, .i .i64 flow, .i .i64 slip, .i .i64 more, .i .i64 weight, .i .i64 rock] H nx (.b true) := by
  obtain ⟨ν, n1, n2, n3, n4⟩ := ls_in (fs := fsj) (ov := true) (l := [([.int .i64], x)]) (lvs := [v_x]) 0 (fun i x lv e1 e2 => by
    cases i with
    | zero => simp at e1 e2; subst e1 e2; exact hl_x
    | succ i =>
      simp at e1) rfl
  refine pure_of (n := 20) (d := m - 21) (U := 30) (fs := fsj) (ov := true) (spC_ok (by omega)) spC_aw noLoop_ok (by decide) (by decide) (by omega) (args := [.ls false 0 (Ll.len x), .i .i64 feed, .i .i64 flow, .i .i64 slip, .i .i64 more, .i .i64 weight, .i .i64 rock]) (M := lsMem 0 [([.int .i64], x)]) (snx := 1) ?_ (VSL.cons (n4 0 _ _ rfl rfl) (VSL.cons rfl (VSL.cons rfl (VSL.cons rfl (VSL.cons rfl (VSL.cons rfl (VSL.cons rfl rfl))))))) (hs_in n2 n3)
  rw [carried_eq]
  have hs : SegOK (annL x) 0 := annP_ok x (annK x) 0 (by omega) (by have := annK_b x; omega)
  have hl : Ll.len (annL x) = (annK x : Int) := by show (((annL x).length : Nat) : Int) = _; rw [annL, annP_len]
  have hk := annK_b x
  unfold SegOK at hs
  rw [hl]
  generalize Ll.get (annL x) 0 0 = a at *
  generalize Ll.get (annL x) 0 1 = b at *
  generalize Ll.get (annL x) 0 2 = c at *
  generalize Ll.get (annL x) 0 3 = e at *
  obtain ⟨f, hf, f0, f1⟩ : ∃ f, feed % 10000 = f ∧ 0 ≤ f ∧ f < 10000 := ⟨_, rfl, Int.emod_nonneg _ (by omega), Int.emod_lt_of_pos _ (by omega)⟩
  obtain ⟨g, hg, g0, g1⟩ : ∃ f, flow % 500000 = f ∧ 0 ≤ f ∧ f < 500000 := ⟨_, rfl, Int.emod_nonneg _ (by omega), Int.emod_lt_of_pos _ (by omega)⟩
  obtain ⟨h, hh, h0, h1⟩ : ∃ f, slip % 300 = f ∧ 0 ≤ f ∧ f < 300 := ⟨_, rfl, Int.emod_nonneg _ (by omega), Int.emod_lt_of_pos _ (by omega)⟩
  obtain ⟨k, hk', k0, k1⟩ : ∃ f, more % 500000 = f ∧ 0 ≤ f ∧ f < 500000 := ⟨_, rfl, Int.emod_nonneg _ (by omega), Int.emod_lt_of_pos _ (by omega)⟩
  obtain ⟨w, hw, w0, w1⟩ : ∃ f, weight % 30000 = f ∧ 0 ≤ f ∧ f < 30000 := ⟨_, rfl, Int.emod_nonneg _ (by omega), Int.emod_lt_of_pos _ (by omega)⟩
  obtain ⟨r, hr, r0, r1⟩ : ∃ f, rock % 10001 = f ∧ 0 ≤ f ∧ f < 10001 := ⟨_, rfl, Int.emod_nonneg _ (by omega), Int.emod_lt_of_pos _ (by omega)⟩
  simp only [hf, hg, hh, hk', hw, hr]
  have e1 := load_is (e := e) (b := b) hs f0 f1 g0 (by omega) h0 h1
  have e2 := load_is (e := e) (b := b) hs f0 f1 (show 0 ≤ g + k by omega) (by omega) h0 h1
  have e3 := loadI_b (a := a) (b := b) (c := c) (e := e) (f := f) (g := g) (h := h) f0
  have e4 := fun p q => loadI_anti (a := a) (b := b) (c := c) (e := e) (f := f) (g := g) (h := h) (k := k) f0 (e1 ▸ p) (e2 ▸ q) k0
  have e5 := mixed_is (w := w) (r := w + r) w0 w1 (by omega) (by omega) e3.1 e3.2
  have e6 := mul_bound h0 (show h ≤ 300 by omega) (show 0 ≤ c by omega) (show c ≤ 1500 by omega)
  simp only [e1, e2] at *
  generalize loadI a b c e f g h = l1 at *
  generalize loadI a b c e f (g + k) h = l2 at *
  generalize mixedI w (w + r) l1 = m1 at *
  generalize mixedI w (w + r) 0 = m2 at *
  generalize mixedI w (w + r) 1000 = m3 at *
  generalize h * c = hc at *
  rw [show (decide (hc < g) == decide (g > hc)) = true by simp]
  by_cases hgc : hc < g
  · have e7 := e4 hgc (by omega)
    simp only [hgc, show hc < g + k by omega, decide_true, Bool.not_true, cond_true, cond_false, cond_iff, cond_not, InK64]
    repeat' (first | apply And.intro | intro _)
    all_goals first | trivial | omega | exact end_b rfl
  · simp only [hgc, decide_false, Bool.not_true, cond_true, cond_false, cond_iff, cond_not, InK64]
    repeat' (first | apply And.intro | intro _)
    all_goals first | trivial | omega | exact end_b rfl
end Go.Proofs.Ytgjnkdedknpniaa
