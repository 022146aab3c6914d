/- Which lines are valid: the program's and the reference's word. -/
import Derived.Test.YtgaibpnlnkeclaaGa
namespace Go.Proofs.Ytgaibpnlnkeclaa
open Go.RowKit

/-- A knot is in its ranges. -/
def knB (t v a k : Int) : Bool := decide (0 ≤ a) && decide (a ≤ t) && decide (0 ≤ k) && decide (k ≤ v)
def ckGo (t v : Int) (S : Nat → Nat → Int) : Nat → Nat → Int
  | 0, _ => 0
  | f + 1, i => if knB t v (S i 0) (S i 1) = true then (if 0 < i ∧ S i 0 ≤ S (i - 1) 0 then 11 else ckGo t v S f (i + 1)) else 2
/-- The limits may be. -/
def limB (t v : Int) : Bool := decide (0 ≤ t) && decide (t ≤ 1099511627776) && decide (0 ≤ v) && decide (v ≤ 68719476736)
/-- The error of a line of n knots. -/
def ckLine (t v : Int) (n : Nat) (S : Nat → Nat → Int) : Int := if limB t v = true then (if n = 0 then 6 else if 24 < n then 8 else ckGo t v S n 0) else 2
theorem limB_true {t v : Int} (h : limB t v = true) : 0 ≤ t ∧ t ≤ 1099511627776 ∧ 0 ≤ v ∧ v ≤ 68719476736 := by
  unfold limB at h
  simp only [Bool.and_eq_true, decide_eq_true_eq] at h
  omega
theorem limB_false {t v : Int} (h : limB t v = false) : ¬ (0 ≤ t ∧ t ≤ 1099511627776 ∧ 0 ≤ v ∧ v ≤ 68719476736) := by
  intro hh
  have : limB t v = true := by unfold limB; simp only [Bool.and_eq_true, decide_eq_true_eq]; omega
  rw [h] at this; cases this
theorem knB_true {t v a k : Int} (h : knB t v a k = true) : 0 ≤ a ∧ a ≤ t ∧ 0 ≤ k ∧ k ≤ v := by
  unfold knB at h
  simp only [Bool.and_eq_true, decide_eq_true_eq] at h
  omega
theorem knB_false {t v a k : Int} (h : knB t v a k = false) : ¬ (0 ≤ a ∧ a ≤ t ∧ 0 ≤ k ∧ k ≤ v) := by
  intro hh
  have : knB t v a k = true := by unfold knB; simp only [Bool.and_eq_true, decide_eq_true_eq]; omega
  rw [h] at this; cases this
set_option maxRecDepth 100000 in
set_option maxHeartbeats 2000000 in
theorem checkLine_any (ka : Option Addr) (n kc : Nat) (S : Nat → Nat → Int) (t v : Int) (w : World) (hn : n ≤ 9223372036854775807) (hK : IsK w ka n S) :
    Calls Try.prog 17 #[.agg #[.slice ka n kc], .int .i64 t, .int .i64 v] w fun e w' => e = .returned (.int .i64 (ckLine t v n S)) ∧ Below w.heap.size w w' := by
  unfold ckLine
  cases hl : limB t v
  · have H : Aside (¬ (0 ≤ t ∧ t ≤ 1099511627776 ∧ 0 ≤ v ∧ v ≤ 68719476736)) := limB_false hl
    clear hK hl
    go_enter Try.func17, Try.ntmps17
    go_upto_region 3 with fail
    all_goals first
      | (exfalso; have := H.out; omega)
      | (go_ret; exact ⟨rfl, by go_grown⟩)
  obtain ⟨t0, t1, v0, v1⟩ := limB_true hl
  rw [if_pos rfl]
  clear hl
  by_cases h0 : n = 0
  · rw [if_pos h0]
    subst h0
    clear hK
    go_enter Try.func17, Try.ntmps17
    go_wp2
    go_ret
    exact ⟨rfl, by go_grown⟩
  rw [if_neg h0]
  have h0' : ((n : Int) == 0) = false := by simpa using h0
  by_cases h24 : 24 < n
  · rw [if_pos h24]
    have h24' : (24 : Int) < n := by omega
    clear hK
    go_enter Try.func17, Try.ntmps17
    go_wp2
    go_ret
    exact ⟨rfl, by go_grown⟩
  rw [if_neg h24]
  have h24' : ¬ (24 : Int) < n := by omega
  obtain ⟨b, o, rfl, hc⟩ : ∃ b o, ka = some ⟨b, o, none⟩ ∧ ∀ i, i < n → w.cell? ⟨b, o + i * 2, none⟩ = some (.int .i64 (S i 0)) ∧ w.cell? ⟨b, o + i * 2 + 1, none⟩ = some (.int .i64 (S i 1)) := by
    rcases hK with h | h
    · omega
    · exact h
  have HC : Aside (∀ i, i < n → w.cell? ⟨b, o + i * 2, none⟩ = some (.int .i64 (S i 0)) ∧ w.cell? ⟨b, o + i * 2 + 1, none⟩ = some (.int .i64 (S i 1))) := hc
  obtain ⟨E, hE⟩ : ∃ E, E = ckGo t v S n 0 := ⟨_, rfl⟩
  have HE : Aside (E = ckGo t v S n 0) := hE
  rw [← hE]
  clear hc hE hK
  go_enter Try.func17, Try.ntmps17
  go_upto_region 7 with fail
  obtain ⟨W, hW⟩ : ∃ W, W = w.alloc (.cells #[.slice (some ⟨b, o, none⟩) n kc] 24) := ⟨_, rfl⟩
  have b0 : Below w.heap.size w W := by rw [hW]; go_grown
  have c0 : W.cell? ⟨w.heap.size, 0, none⟩ = some (.slice (some ⟨b, o, none⟩) n kc) := by rw [hW]; simp [go_sem]
  have HC0 : Aside (W.cell? ⟨w.heap.size, 0, none⟩ = some (.slice (some ⟨b, o, none⟩) n kc)) := c0
  rw [← hW]
  clear hW
  go_wp2_with fail
  clear c0
  go_loopg [34] n (fun f x wr => ∃ i : Nat, x = .int .i64 i ∧ i + f = n ∧ Below W.heap.size W wr ∧ E = ckGo t v S f i)
  case atStart => exact ⟨0, rfl, by omega, Below.refl _ _, HE.out⟩
  case round =>
    obtain ⟨i, rfl, hi, hb, hL⟩ := hrel
    have HB : Aside (Below W.heap.size W wr) := hb
    have HBW : Aside (Below w.heap.size w wr) := below_next b0 hb
    have HL : Aside (E = ckGo t v S gk i) := hL
    clear HE hb hL
    by_cases hend : i < n
    · have hend' : (i : Int) < n := by omega
      obtain ⟨f, rfl⟩ : ∃ f, gk = f + 1 := ⟨gk - 1, by omega⟩
      have ha := cell_below HBW.out (HC.out i hend).1
      have hk := cell_below HBW.out (HC.out i hend).2
      obtain ⟨A, hA⟩ : ∃ A, A = S i 0 := ⟨_, rfl⟩
      obtain ⟨K, hKK⟩ : ∃ K, K = S i 1 := ⟨_, rfl⟩
      rw [← hA] at ha
      rw [← hKK] at hk
      have HL2 : Aside (E = if knB t v A K = true then (if 0 < i ∧ A ≤ S (i - 1) 0 then 11 else ckGo t v S f (i + 1)) else 2) := by
        show _ = _; rw [HL.out, hA, hKK]; rfl
      clear hA hKK HL
      cases hkn : knB t v A K
      · have H : Aside (¬ (0 ≤ A ∧ A ≤ t ∧ 0 ≤ K ∧ K ≤ v)) := knB_false hkn
        have HE2 : Aside (E = 2) := by have := HL2.out; rw [hkn] at this; exact this
        clear hkn HL2
        go_upto_region 12 with fail
        all_goals first
          | (exfalso; have := H.out; omega)
          | (go_ret; exact ⟨ret_i HE2.out.symm, HBW.out.trans ((Below.refl _ _).alloc HBW.out.size _)⟩)
      · obtain ⟨a0, a1, k0, k1⟩ := knB_true hkn
        have HL3 : Aside (E = if 0 < i ∧ A ≤ S (i - 1) 0 then 11 else ckGo t v S f (i + 1)) := by have := HL2.out; rw [hkn] at this; exact this
        clear hkn HL2
        go_upto_region 12 with fail
        obtain ⟨W2, hW2⟩ : ∃ W2, W2 = wr.alloc (.cells #[.int .i64 A, .int .i64 K] 75) := ⟨_, rfl⟩
        have x0 : W2.cell? ⟨wr.heap.size, 0, none⟩ = some (.int .i64 A) := by rw [hW2]; simp [go_sem]
        have b2 : Below wr.heap.size wr W2 := by rw [hW2]; go_grown
        have y0 : W2.cell? ⟨w.heap.size, 0, none⟩ = some (.slice (some ⟨b, o, none⟩) n kc) := cell_below b2 (cell_below HB.out HC0.out)
        have HB2 : Aside (∀ m, Below W.heap.size W (W2.drewN m)) := fun m => (below_next HB.out b2).trans (below_drewN m _)
        have HBW2 : Aside (∀ m, Below w.heap.size w (W2.drewN m)) := fun m => (below_next HBW.out b2).trans (below_drewN m _)
        rw [← hW2]
        clear hW2 ha hk
        cases i with
        | zero =>
          have HE2 : Aside (E = ckGo t v S f 1) := by have := HL3.out; rw [if_neg (by omega)] at this; exact this
          clear HL3 b2
          go_quiet (fail)
          go_wp2_with fail
          go_roundg f
          case measure => omega
          case rel => exact ⟨1, rfl, by omega, HB2.out _, HE2.out⟩
        | succ j =>
          have z0 := cell_below b2 (cell_below HBW.out (HC.out j (by omega)).1)
          obtain ⟨A', hA'⟩ : ∃ A', A' = S j 0 := ⟨_, rfl⟩
          rw [← hA'] at z0
          have HL4 : Aside (E = if A ≤ A' then 11 else ckGo t v S f (j + 1 + 1)) := by
            have := HL3.out
            rw [show j + 1 - 1 = j from rfl, ← hA'] at this
            by_cases h : A ≤ A'
            · rw [if_pos ⟨by omega, h⟩] at this; rw [show Aside (E = if A ≤ A' then 11 else ckGo t v S f (j + 1 + 1)) = (E = if A ≤ A' then 11 else ckGo t v S f (j + 1 + 1)) from rfl, if_pos h]; exact this
            · rw [if_neg (fun hh => h hh.2)] at this; rw [show Aside (E = if A ≤ A' then 11 else ckGo t v S f (j + 1 + 1)) = (E = if A ≤ A' then 11 else ckGo t v S f (j + 1 + 1)) from rfl, if_neg h]; exact this
          have q6 : decide ((0 : Int) < (j : Int) + 1) = true := by simp
          have q7 : (j : Int) < n := by omega
          have m1 : IntKind.i64.wrap ((j : Int) + 1 - 1) = (j : Int) := by rw [show (j : Int) + 1 - 1 = (j : Int) by omega]; exact IntWalk.i64_in _ (by omega)
          have m2 : IntKind.i64.wrap (j : Int) = (j : Int) := IntWalk.i64_in _ (by omega)
          clear HL3 hA' b2
          by_cases hAA : A ≤ A'
          · have HE2 : Aside (E = 11) := by have := HL4.out; rw [if_pos hAA] at this; exact this
            have q8 : decide (A ≤ A') = true := by simpa using hAA
            go_quiet (fail)
            clear m1 m2
            go_wp2_with fail
            go_ret
            exact ⟨ret_i HE2.out.symm, HBW2.out _⟩
          · have HE2 : Aside (E = ckGo t v S f (j + 1 + 1)) := by have := HL4.out; rw [if_neg hAA] at this; exact this
            have q8 : decide (A ≤ A') = false := by simpa using hAA
            go_quiet (fail)
            clear m1 m2
            go_wp2_with fail
            go_roundg f
            case measure => omega
            case rel => exact ⟨j + 1 + 1, by simp, by omega, HB2.out _, HE2.out⟩
    · have hend' : ¬ (i : Int) < n := by omega
      have HE2 : Aside (E = 0) := by have := HL.out; rw [show gk = 0 by omega] at this; exact this
      go_wp2_with fail
      go_ret
      exact ⟨ret_i HE2.out.symm, HBW.out⟩
set_option maxRecDepth 100000 in
set_option maxHeartbeats 2000000 in
theorem rcheckLine_any (ka : Option Addr) (n kc : Nat) (S : Nat → Nat → Int) (t v : Int) (w : World) (hn : n ≤ 9223372036854775807) (hK : IsK w ka n S) :
    Calls Try.prog 18 #[.agg #[.slice ka n kc], .int .i64 t, .int .i64 v] w fun e w' => e = .returned (.int .i64 (ckLine t v n S)) ∧ Below w.heap.size w w' := by
  unfold ckLine
  cases hl : limB t v
  · have H : Aside (¬ (0 ≤ t ∧ t ≤ 1099511627776 ∧ 0 ≤ v ∧ v ≤ 68719476736)) := limB_false hl
    clear hK hl
    go_enter Try.func18, Try.ntmps18
    go_upto_region 3 with fail
    all_goals first
      | (exfalso; have := H.out; omega)
      | (go_ret; exact ⟨rfl, by go_grown⟩)
  obtain ⟨t0, t1, v0, v1⟩ := limB_true hl
  rw [if_pos rfl]
  clear hl
  by_cases h0 : n = 0
  · rw [if_pos h0]
    subst h0
    clear hK
    go_enter Try.func18, Try.ntmps18
    go_wp2
    go_ret
    exact ⟨rfl, by go_grown⟩
  rw [if_neg h0]
  have h0' : ((n : Int) == 0) = false := by simpa using h0
  by_cases h24 : 24 < n
  · rw [if_pos h24]
    have h24' : (24 : Int) < n := by omega
    clear hK
    go_enter Try.func18, Try.ntmps18
    go_wp2
    go_ret
    exact ⟨rfl, by go_grown⟩
  rw [if_neg h24]
  have h24' : ¬ (24 : Int) < n := by omega
  obtain ⟨b, o, rfl, hc⟩ : ∃ b o, ka = some ⟨b, o, none⟩ ∧ ∀ i, i < n → w.cell? ⟨b, o + i * 2, none⟩ = some (.int .i64 (S i 0)) ∧ w.cell? ⟨b, o + i * 2 + 1, none⟩ = some (.int .i64 (S i 1)) := by
    rcases hK with h | h
    · omega
    · exact h
  have HC : Aside (∀ i, i < n → w.cell? ⟨b, o + i * 2, none⟩ = some (.int .i64 (S i 0)) ∧ w.cell? ⟨b, o + i * 2 + 1, none⟩ = some (.int .i64 (S i 1))) := hc
  obtain ⟨E, hE⟩ : ∃ E, E = ckGo t v S n 0 := ⟨_, rfl⟩
  have HE : Aside (E = ckGo t v S n 0) := hE
  rw [← hE]
  clear hc hE hK
  go_enter Try.func18, Try.ntmps18
  go_upto_region 7 with fail
  obtain ⟨W, hW⟩ : ∃ W, W = w.alloc (.cells #[.slice (some ⟨b, o, none⟩) n kc] 24) := ⟨_, rfl⟩
  have b0 : Below w.heap.size w W := by rw [hW]; go_grown
  have c0 : W.cell? ⟨w.heap.size, 0, none⟩ = some (.slice (some ⟨b, o, none⟩) n kc) := by rw [hW]; simp [go_sem]
  have HC0 : Aside (W.cell? ⟨w.heap.size, 0, none⟩ = some (.slice (some ⟨b, o, none⟩) n kc)) := c0
  rw [← hW]
  clear hW
  go_wp2_with fail
  clear c0
  go_loopg [7] n (fun f x wr => ∃ i : Nat, x = .int .i64 i ∧ i + f = n ∧ Below W.heap.size W wr ∧ E = ckGo t v S f i)
  case atStart => exact ⟨0, rfl, by omega, Below.refl _ _, HE.out⟩
  case round =>
    obtain ⟨i, rfl, hi, hb, hL⟩ := hrel
    have HB : Aside (Below W.heap.size W wr) := hb
    have HBW : Aside (Below w.heap.size w wr) := below_next b0 hb
    have HL : Aside (E = ckGo t v S gk i) := hL
    have z9 := cell_below hb HC0.out
    clear HE hb hL
    by_cases hend : i < n
    · have hend' : (i : Int) < n := by omega
      obtain ⟨f, rfl⟩ : ∃ f, gk = f + 1 := ⟨gk - 1, by omega⟩
      have ha := cell_below HBW.out (HC.out i hend).1
      have hk := cell_below HBW.out (HC.out i hend).2
      obtain ⟨A, hA⟩ : ∃ A, A = S i 0 := ⟨_, rfl⟩
      obtain ⟨K, hKK⟩ : ∃ K, K = S i 1 := ⟨_, rfl⟩
      rw [← hA] at ha
      rw [← hKK] at hk
      have HL2 : Aside (E = if knB t v A K = true then (if 0 < i ∧ A ≤ S (i - 1) 0 then 11 else ckGo t v S f (i + 1)) else 2) := by
        show _ = _; rw [HL.out, hA, hKK]; rfl
      clear hA hKK HL
      cases hkn : knB t v A K
      · have H : Aside (¬ (0 ≤ A ∧ A ≤ t ∧ 0 ≤ K ∧ K ≤ v)) := knB_false hkn
        have HE2 : Aside (E = 2) := by have := HL2.out; rw [hkn] at this; exact this
        clear hkn HL2
        go_upto_region 13 with fail
        all_goals first
          | (exfalso; have := H.out; omega)
          | (go_ret; exact ⟨ret_i HE2.out.symm, HBW.out.trans ((Below.refl _ _).alloc HBW.out.size _)⟩)
      · obtain ⟨a0, a1, k0, k1⟩ := knB_true hkn
        have HL3 : Aside (E = if 0 < i ∧ A ≤ S (i - 1) 0 then 11 else ckGo t v S f (i + 1)) := by have := HL2.out; rw [hkn] at this; exact this
        clear hkn HL2
        go_upto_region 13 with fail
        obtain ⟨W2, hW2⟩ : ∃ W2, W2 = wr.alloc (.cells #[.int .i64 A, .int .i64 K] 75) := ⟨_, rfl⟩
        have x0 : W2.cell? ⟨wr.heap.size, 0, none⟩ = some (.int .i64 A) := by rw [hW2]; simp [go_sem]
        have b2 : Below wr.heap.size wr W2 := by rw [hW2]; go_grown
        have y0 : W2.cell? ⟨w.heap.size, 0, none⟩ = some (.slice (some ⟨b, o, none⟩) n kc) := cell_below b2 (cell_below HB.out HC0.out)
        have HB2 : Aside (∀ m, Below W.heap.size W (W2.drewN m)) := fun m => (below_next HB.out b2).trans (below_drewN m _)
        have HBW2 : Aside (∀ m, Below w.heap.size w (W2.drewN m)) := fun m => (below_next HBW.out b2).trans (below_drewN m _)
        rw [← hW2]
        clear hW2 ha hk
        cases i with
        | zero =>
          have HE2 : Aside (E = ckGo t v S f 1) := by have := HL3.out; rw [if_neg (by omega)] at this; exact this
          clear HL3 b2
          go_quiet (fail)
          go_wp2_with fail
          go_roundg f
          case measure => omega
          case rel => exact ⟨1, rfl, by omega, HB2.out _, HE2.out⟩
        | succ j =>
          have z0 := cell_below b2 (cell_below HBW.out (HC.out j (by omega)).1)
          obtain ⟨A', hA'⟩ : ∃ A', A' = S j 0 := ⟨_, rfl⟩
          rw [← hA'] at z0
          have HL4 : Aside (E = if A ≤ A' then 11 else ckGo t v S f (j + 1 + 1)) := by
            have := HL3.out
            rw [show j + 1 - 1 = j from rfl, ← hA'] at this
            by_cases h : A ≤ A'
            · rw [if_pos ⟨by omega, h⟩] at this; rw [show Aside (E = if A ≤ A' then 11 else ckGo t v S f (j + 1 + 1)) = (E = if A ≤ A' then 11 else ckGo t v S f (j + 1 + 1)) from rfl, if_pos h]; exact this
            · rw [if_neg (fun hh => h hh.2)] at this; rw [show Aside (E = if A ≤ A' then 11 else ckGo t v S f (j + 1 + 1)) = (E = if A ≤ A' then 11 else ckGo t v S f (j + 1 + 1)) from rfl, if_neg h]; exact this
          have q6 : decide ((0 : Int) < (j : Int) + 1) = true := by simp
          have q7 : (j : Int) < n := by omega
          have m1 : IntKind.i64.wrap ((j : Int) + 1 - 1) = (j : Int) := by rw [show (j : Int) + 1 - 1 = (j : Int) by omega]; exact IntWalk.i64_in _ (by omega)
          have m2 : IntKind.i64.wrap (j : Int) = (j : Int) := IntWalk.i64_in _ (by omega)
          clear HL3 hA' b2
          by_cases hAA : A ≤ A'
          · have HE2 : Aside (E = 11) := by have := HL4.out; rw [if_pos hAA] at this; exact this
            have q8 : decide (A ≤ A') = true := by simpa using hAA
            go_quiet (fail)
            clear m1 m2
            go_wp2_with fail
            go_ret
            exact ⟨ret_i HE2.out.symm, HBW2.out _⟩
          · have HE2 : Aside (E = ckGo t v S f (j + 1 + 1)) := by have := HL4.out; rw [if_neg hAA] at this; exact this
            have q8 : decide (A ≤ A') = false := by simpa using hAA
            go_quiet (fail)
            clear m1 m2
            go_wp2_with fail
            go_roundg f
            case measure => omega
            case rel => exact ⟨j + 1 + 1, by simp, by omega, HB2.out _, HE2.out⟩
    · have hend' : ¬ (i : Int) < n := by omega
      have HE2 : Aside (E = 0) := by have := HL.out; rw [show gk = 0 by omega] at this; exact this
      go_wp2_with fail
      go_ret
      exact ⟨ret_i HE2.out.symm, HBW.out⟩
end Go.Proofs.Ytgaibpnlnkeclaa
