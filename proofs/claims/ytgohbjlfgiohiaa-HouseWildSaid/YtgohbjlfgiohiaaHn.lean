/- Is a number in a list; the numbers that a blow-out is made of. -/
import Derived.Test.YtgohbjlfgiohiaaHj
import Derived.Test.YtgohbjlfgiohiaaHm
namespace Go.Proofs.Ytgohbjlfgiohiaa
open Go.RowKit

/-- A number is in a list. -/
def hasB (lv : Nat → Int) (x : Int) : Nat → Bool
  | 0 => false
  | k + 1 => hasB lv x k || decide (lv k = x)
theorem hasB_iff (lv : Nat → Int) (x : Int) : ∀ n, hasB lv x n = true ↔ ∃ k, k < n ∧ lv k = x
  | 0 => by simp [hasB]
  | n + 1 => by
    unfold hasB
    rw [Bool.or_eq_true, hasB_iff lv x n]
    constructor
    · rintro (⟨k, h1, h2⟩ | h)
      · exact ⟨k, by omega, h2⟩
      · exact ⟨n, by omega, by simpa using h⟩
    · rintro ⟨k, h1, h2⟩
      rcases Nat.lt_succ_iff_lt_or_eq.1 h1 with h | h
      · exact .inl ⟨k, h, h2⟩
      · subst h; exact .inr (by simpa using h2)
theorem hasB_false {lv : Nat → Int} {x : Int} {n : Nat} (h : ∀ k, k < n → lv k ≠ x) : hasB lv x n = false := by
  cases e : hasB lv x n
  · rfl
  · obtain ⟨k, hk, h2⟩ := (hasB_iff lv x n).1 e
    exact absurd h2 (h k hk)
set_option maxHeartbeats 1000000 in
theorem hasInt_l (ra : Option Addr) (len cp : Nat) (lv : Nat → Int) (x : Int) (w : World) (hl : len ≤ 9223372036854775807) (hm : IsL w ra len lv) :
    Calls Try.prog 29 #[.slice ra len cp, .int .i64 x] w fun e w' => e = .returned (.bool (hasB lv x len)) ∧ w = w' := by
  have HM : Aside (IsL w ra len lv) := hm
  clear hm
  go_enter Try.func29, Try.ntmps29
  go_wp2_with fail
  go_loopg [5] len (fun f v wr => ∃ k : Nat, v = .int .i64 k ∧ k + f = len ∧ w = wr ∧ ∀ j, j < k → lv j ≠ x)
  case atStart => exact ⟨0, rfl, by omega, rfl, fun j hj => absurd hj (by omega)⟩
  case round =>
    obtain ⟨k, rfl, hk, rfl, hp⟩ := hrel
    have HP : Aside (∀ j, j < k → lv j ≠ x) := hp
    clear hp
    by_cases hend : k < len
    · have hend' : (k : Int) < len := by omega
      obtain ⟨b, o, rfl, hc⟩ : ∃ b o, ra = some ⟨b, o, none⟩ ∧ w.cell? ⟨b, o + k, none⟩ = some (.int .i64 (lv k)) := by
        rcases HM.out with h0 | ⟨b, o, rfl, h⟩
        · omega
        · exact ⟨b, o, rfl, h k hend⟩
      obtain ⟨f, rfl⟩ : ∃ f, gk = f + 1 := ⟨gk - 1, by omega⟩
      by_cases hx : lv k = x
      · have hx' : (lv k == x) = true := by simpa using hx
        have HX : Aside (lv k = x) := hx
        clear hx
        go_wp2_with fail
        go_ret
        rw [(hasB_iff lv x len).2 ⟨k, hend, HX.out⟩]
        exact ⟨rfl, rfl⟩
      · have hx' : (lv k == x) = false := by simpa using hx
        have HX : Aside (¬ lv k = x) := hx
        clear hx
        go_wp2_with fail
        go_roundg f
        case measure => omega
        case rel => exact ⟨k + 1, by simp, by omega, rfl, fun j hj => by rcases Nat.lt_succ_iff_lt_or_eq.1 hj with h | h; exact HP.out j h; subst h; exact HX.out⟩
    · have hend' : ¬ (k : Int) < len := by omega
      go_wp2_with fail
      go_ret
      rw [hasB_false fun j hj => HP.out j (by omega)]
      exact ⟨rfl, rfl⟩
set_option maxHeartbeats 1000000 in
theorem index_l (ra : Option Addr) (len cp : Nat) (lv : Nat → Int) (x : Int) (w : World) (hl : len ≤ 9223372036854775807) (hm : IsL w ra len lv) :
    Calls Try.prog 45 #[.slice ra len cp, .int .i64 x] w fun e w' => ∃ r : Int, e = .returned (.int .i64 r) ∧ w = w' ∧ decide (0 ≤ r) = hasB lv x len := by
  have HM : Aside (IsL w ra len lv) := hm
  clear hm
  go_enter Try.func45, Try.ntmps45
  go_wp2_with fail
  go_loopg [8] len (fun f v wr => ∃ k : Nat, v = .int .i64 k ∧ k + f = len ∧ w = wr ∧ ∀ j, j < k → lv j ≠ x)
  case atStart => exact ⟨0, rfl, by omega, rfl, fun j hj => absurd hj (by omega)⟩
  case round =>
    obtain ⟨k, rfl, hk, rfl, hp⟩ := hrel
    have HP : Aside (∀ j, j < k → lv j ≠ x) := hp
    clear hp
    by_cases hend : k < len
    · have hend' : (k : Int) < len := by omega
      obtain ⟨b, o, rfl, hc⟩ : ∃ b o, ra = some ⟨b, o, none⟩ ∧ w.cell? ⟨b, o + k, none⟩ = some (.int .i64 (lv k)) := by
        rcases HM.out with h0 | ⟨b, o, rfl, h⟩
        · omega
        · exact ⟨b, o, rfl, h k hend⟩
      obtain ⟨f, rfl⟩ : ∃ f, gk = f + 1 := ⟨gk - 1, by omega⟩
      by_cases hx : lv k = x
      · have hx' : (x == lv k) = true := by simpa using hx.symm
        have HX : Aside (lv k = x) := hx
        clear hx
        go_wp2_with fail
        go_ret
        exact ⟨k, rfl, rfl, by rw [(hasB_iff lv x len).2 ⟨k, hend, HX.out⟩]; simp⟩
      · have hx' : (x == lv k) = false := by simpa using fun h => hx h.symm
        have HX : Aside (¬ lv k = x) := hx
        clear hx
        go_wp2_with fail
        go_roundg f
        case measure => omega
        case rel => exact ⟨k + 1, by simp, by omega, rfl, fun j hj => by rcases Nat.lt_succ_iff_lt_or_eq.1 hj with h | h; exact HP.out j h; subst h; exact HX.out⟩
    · have hend' : ¬ (k : Int) < len := by omega
      go_wp2_with fail
      go_ret
      exact ⟨-1, rfl, rfl, by rw [hasB_false fun j hj => HP.out j (by omega)]; simp⟩
set_option maxHeartbeats 400000 in
theorem contains_l (ra : Option Addr) (len cp : Nat) (lv : Nat → Int) (x : Int) (w : World) (hl : len ≤ 9223372036854775807) (hm : IsL w ra len lv) :
    Calls Try.prog 36 #[.slice ra len cp, .int .i64 x] w fun e w' => e = .returned (.bool (hasB lv x len)) ∧ w = w' := by
  have H : Aside (Calls Try.prog 45 #[.slice ra len cp, .int .i64 x] w fun e w' => ∃ r : Int, e = .returned (.int .i64 r) ∧ w = w' ∧ decide (0 ≤ r) = hasB lv x len) := index_l ra len cp lv x w hl hm
  clear hm
  go_enter Try.func36, Try.ntmps36
  go_wp2_with (refine H.out.mono ?_; rintro e w' ⟨r, rfl, rfl, hr⟩)
  go_ret
  exact ⟨by first | rw [hr] | simp [← hr], rfl⟩

/-- The number that a blow-out is made of, at a place. -/
def atF (len : Nat) (lv : Nat → Int) (i : Nat) : Int := if len = 0 then 0 else (lv (i % len) % 1048576) / (1 + ((i / len : Nat) : Int))
theorem atF_bd (len : Nat) (lv : Nat → Int) (i : Nat) : 0 ≤ atF len lv i ∧ atF len lv i ≤ 1048576 := by
  unfold atF
  split
  · omega
  · have h0 : 0 ≤ lv (i % len) % 1048576 := by omega
    have h1 := Int.ediv_le_self (a := lv (i % len) % 1048576) (1 + ((i / len : Nat) : Int)) h0
    have h2 : 0 ≤ lv (i % len) % 1048576 / (1 + ((i / len : Nat) : Int)) := Int.ediv_nonneg h0 (Int.le_trans (by decide) (Int.le_add_of_nonneg_right (Int.natCast_nonneg _)))
    have h3 : lv (i % len) % 1048576 < 1048576 := by omega
    exact ⟨h2, Int.le_trans h1 (by omega)⟩
set_option maxRecDepth 100000 in
set_option maxHeartbeats 1000000 in
theorem at_any (bb : Nat) (ra : Option Addr) (len cp : Nat) (lv : Nat → Int) (i : Nat) (hi : i ≤ 1000) (w : World) (hl : len ≤ 9223372036854775807) (c0 : w.cell? ⟨bb, 0, none⟩ = some (.slice ra len cp)) (hm : IsL w ra len lv)
    (hb : ∀ k, k < len → -9223372036854775808 ≤ lv k ∧ lv k ≤ 9223372036854775807) :
    Calls Try.prog 44 #[.int .i64 i, .pointer (some ⟨bb, 0, none⟩)] w fun e w' => e = .returned (.int .i64 (atF len lv i)) ∧ ∃ n, w' = w.drewN n := by
  by_cases h0 : len = 0
  · subst h0
    clear hm hb
    go_enter Try.func44, Try.ntmps44
    go_wp2
    go_ret
    exact ⟨rfl, 0, rfl⟩
  · obtain ⟨j, hj⟩ : ∃ j, j = i % len := ⟨_, rfl⟩
    have hjl : j < len := by rw [hj]; exact Nat.mod_lt _ (by omega)
    obtain ⟨b, o, rfl, hc⟩ : ∃ b o, ra = some ⟨b, o, none⟩ ∧ w.cell? ⟨b, o + j, none⟩ = some (.int .i64 (lv j)) := by
      rcases hm with h | ⟨b, o, rfl, h⟩
      · omega
      · exact ⟨b, o, rfl, h j hjl⟩
    obtain ⟨b0, b1⟩ := hb j hjl
    obtain ⟨q, hq⟩ : ∃ q : Nat, q = i / len := ⟨_, rfl⟩
    have hq1 : q ≤ i := by rw [hq]; exact Nat.div_le_self _ _
    have d1 : (i : Int).tdiv (len : Int) = (q : Int) := by rw [hq, Int.tdiv_eq_ediv_of_nonneg (by omega), Int.natCast_ediv]
    have d2 : (i : Int).tmod (len : Int) = (j : Int) := by rw [hj, Int.tmod_eq_emod_of_nonneg (by omega), Int.natCast_emod]
    have d3 : (i : Int) / (len : Int) = (q : Int) := by rw [hq, Int.natCast_ediv]
    have d4 : (i : Int) % (len : Int) = (j : Int) := by rw [hj, Int.natCast_emod]
    obtain ⟨s, hs⟩ : ∃ s : Int, s = lv j % 1048576 / (1 + (q : Int)) := ⟨_, rfl⟩
    have y0 : 0 ≤ lv j % 1048576 := by omega
    have s0 : 0 ≤ s := by rw [hs]; exact Int.ediv_nonneg y0 (by omega)
    have s1 : s ≤ 1048576 := by
      have := Int.ediv_le_self (a := lv j % 1048576) (1 + (q : Int)) y0
      omega
    have d5 : (lv j % 1048576).tdiv (1 + (q : Int)) = s := by rw [hs]; exact Int.tdiv_eq_ediv_of_nonneg y0
    have hs' : lv j % 1048576 / (1 + (q : Int)) = s := hs.symm
    have HS : Aside (atF len lv i = s) := by show _ = _; unfold atF; rw [if_neg h0, ← hj, ← hq, hs]
    have hl0 : ¬ (len : Int) = 0 := by omega
    have hl1 : ((len : Int) == 0) = false := by simpa using hl0
    have hq2 : ¬ 1 + (q : Int) = 0 := by omega
    have hjl' : (j : Int) < (len : Int) := by omega
    rw [HS.out]
    clear hm hb hj hq hs h0
    go_enter Try.func44, Try.ntmps44
    go_wp2_with fail
    have i1 : IntKind.i64.wrap (1 + (q : Int)) = 1 + (q : Int) := IntWalk.i64_in _ (by omega)
    have i2 : IntKind.i64.wrap (q : Int) = (q : Int) := IntWalk.i64_in _ (by omega)
    have i3 : IntKind.i64.wrap s = s := IntWalk.i64_in _ (by omega)
    have i5 : IntKind.i64.wrap (j : Int) = (j : Int) := IntWalk.i64_in _ (by omega)
    have hmod := fun w => (mod_any (lv j) 1048576 b0 b1 (by omega) (by omega) w).mono (R' := fun e w' => e = .returned (.int .i64 (lv j % 1048576)) ∧ w' = w) fun _ _ ⟨h, k⟩ => ⟨h, k.symm⟩
    go_quiet ((go_at_call 28; exact Calls.quiet_of_same (hmod _)))
    clear i1 i2 i3 i5 hmod
    go_wp2
    go_ret
    exact ⟨rfl, _, rfl⟩
end Go.Proofs.Ytgohbjlfgiohiaa
