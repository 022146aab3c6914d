/- KickOrder returns true for every list of numbers and every number: a greater kick is never noticed later, nor any one by a better sensor, and the latest alarm of a set is that of its least kick. -/
import Derived.Test.YtngcfohmlppghaaKy
import Derived.Test.YtngcfohmlppghaaKt
import Derived.Test.YtngcfohmlppghaaKg
import Derived.Test.YtngcfohmlppghaaKr
import Derived.Deep.RegionHeld3
import Derived.Deep.DeepCutAuto
namespace Go.Proofs.Ytngcfohmlppghaa
open Go.ChangeShapes Go.WideShapes Go.ChangeAt Go.RowKit

set_option maxRecDepth 100000 in
set_option maxHeartbeats 4000000 in
theorem walkOrder (w : World) (a : Option Addr) (len cap : Nat) (zs : List Int) (hrow : IsRow w a len cap zs) (q : Int) (hq : IntKind.i64.has q) :
    Calls Try.prog 9 #[.slice a len cap, .int .i64 q] w fun e w' => e = .returned (.bool true) ∧ Below w.heap.size w w' := by
  obtain ⟨q0, q1⟩ := has_bd hq
  clear hq
  go_enter Try.func9, Try.ntmps9
  go_wp2_with fail
  refine (newRing_any a len cap zs w hrow).mono ?_
  rintro e w1 ⟨rb, hrb, rfl, hb1, r1⟩
  go_wp2_with fail
  refine (kicksOf_any rb a len cap zs 0 (by omega) _ r1).mono ?_
  rintro e w2 ⟨x0, x1, x2, x3, e0, e1, e2, e3, e4, e5, rfl, k2, r2⟩
  go_wp2_with fail
  refine (sensorOf_any rb a len cap zs (0 + 6) (by omega) _ r2).mono ?_
  rintro e w3 ⟨c, p, d, n, s, l, m, k, hsb, rfl, k3, r3⟩
  have hk3 : RKept rb w1 w3 := k2.trans k3
  have hb3 : Below w.heap.size w w3 := hb1.trans (hk3.below hrb hb1.size)
  clear k2 k3 hk3 r1 r2 r3 hb1 hrow
  go_wp2_with fail
  obtain ⟨W3, hW3⟩ : ∃ W, W = (w3.alloc (.cells (kv x0 x1 x2 x3) 56)).alloc (.cells (sv c p d n s l m k) 32) := ⟨_, rfl⟩
  obtain ⟨xb, hxb⟩ : ∃ z, z = w3.heap.size := ⟨_, rfl⟩
  have X3 : QC W3 xb x0 x1 x2 x3 := by rw [hW3, hxb]; exact ⟨by simp [go_sem, World.cell?_alloc_past], by simp [go_sem, World.cell?_alloc_past], by simp [go_sem, World.cell?_alloc_past], by simp [go_sem, World.cell?_alloc_past]⟩
  have S3 : SC W3 (xb + 1) c p d n s l m k := by rw [hW3, hxb]; exact ⟨by simp [go_sem], by simp [go_sem], by simp [go_sem], by simp [go_sem], by simp [go_sem], by simp [go_sem], by simp [go_sem], by simp [go_sem], fun j => by simp [go_sem]⟩
  have B3 : Below w.heap.size w W3 := by rw [hW3]; exact bel_trans hb3 (by go_grown)
  have hs3 : W3.heap.size = xb + 2 := by rw [hW3, hxb]; simp
  rw [← hW3, ← hxb]
  have hxw : w.heap.size ≤ xb := by rw [hxb]; exact hb3.size
  clear hW3 hxb hb3
  go_cut [8, 9] (fun s8 s9 wx => ∃ lb hb : Nat, s8 = .pointer (some ⟨lb, 0, none⟩) ∧ s9 = .pointer (some ⟨hb, 0, none⟩) ∧ KC wx lb x0 x2 ∧ KC wx hb x1 x3 ∧ Below W3.heap.size W3 wx)
  · go_region_held3 (fun w' => w'.cell? ⟨xb, 0, none⟩ = some (.int .i64 x0) ∧ w'.cell? ⟨xb, 1, none⟩ = some (.int .i64 x1) ∧ w'.cell? ⟨xb, 2, none⟩ = some (.int .i64 x2) ∧ w'.cell? ⟨xb, 3, none⟩ = some (.int .i64 x3))
      (first
        | exact ⟨X3.c0, X3.c1, X3.c2, X3.c3⟩
        | (simp [go_sem, World.cell?_alloc_past, hs3, X3.c0, X3.c1, X3.c2, X3.c3]; done))
      (fail)
    all_goals (go_wp2_with fail; go_meet; refine ⟨_, _, rfl, rfl, ⟨?_, ?_⟩, ⟨?_, ?_⟩, ?_⟩)
    all_goals first
      | (simp [go_sem, World.cell?_alloc_past, hs3]; done)
      | go_grown
  obtain ⟨lb, hb, rfl, rfl, L4, H4, k4⟩ := hcut
  obtain ⟨W4, rfl⟩ : ∃ W : World, W = wc := ⟨_, rfl⟩
  have X4 := X3.below k4
  have S4 := S3.below k4
  have B4 := bel_trans B3 k4
  clear X3 S3 B3 k4 hs3
  have hs0 : senE c p d n s l m k = 0 := senE_of hsb.ok.1 hsb.ok.2
  have hk0 : kickB x0 x2 = true := by simp [kickB, wi]; omega
  have hk1 : kickB x1 x3 = true := by simp [kickB, wi]; omega
  have hm0 := lateE_mono hs0 hs0 hk0 hk1 (Int.le_refl _) (Int.le_refl _) (Int.le_refl _) (Int.le_refl _) (Int.le_refl _) e1 e4
  have hA := late_all c p d n s l m k x0 x2
  have hB := late_all c p d n s l m k x1 x3
  obtain ⟨⟨nn, is⟩, hA2⟩ : ∃ z, z = lateE c p d n s l m k x0 x2 := ⟨_, rfl⟩
  obtain ⟨⟨mm, was⟩, hB2⟩ : ∃ z, z = lateE c p d n s l m k x1 x3 := ⟨_, rfl⟩
  rw [← hA2] at hA hm0
  rw [← hB2] at hB hm0
  have HA : Aside (∀ w : World, Calls Try.prog 29 #[.agg (sv c p d n s l m k), .agg #[.int .i64 x0, .int .i64 x2]] w fun e w' => e = .returned (.tuple #[.int .i64 nn, .bool is]) ∧ Below w.heap.size w w') := hA
  have HB : Aside (∀ w : World, Calls Try.prog 29 #[.agg (sv c p d n s l m k), .agg #[.int .i64 x1, .int .i64 x3]] w fun e w' => e = .returned (.tuple #[.int .i64 mm, .bool was]) ∧ Below w.heap.size w w') := hB
  have HM : Aside (is = true → was = true ∧ mm ≤ nn) := hm0
  have HA2 : Aside ((nn, is) = lateE c p d n s l m k x0 x2) := hA2
  clear hA hB hm0 hA2 hB2
  have s0 := S4.c0; have s1 := S4.c1; have s2 := S4.c2; have s3 := S4.c3; have s4 := S4.c4; have s5 := S4.c5; have s6 := S4.c6; have s7 := S4.c7; have l0 := L4.c0; have l1 := L4.c1; have h0 := H4.c0; have h1 := H4.c1
  go_wp2_with fail
  refine (HA.out _).mono ?_
  rintro e w5 ⟨rfl, k5⟩
  have X5 := X4.below k5; have S5 := S4.below k5; have L5 := L4.below k5; have H5 := H4.below k5; have B5 := bel_trans B4 k5
  clear X4 S4 L4 H4 B4 k5 s0 s1 s2 s3 s4 s5 s6 s7 l0 l1 h0 h1
  have s0 := S5.c0; have s1 := S5.c1; have s2 := S5.c2; have s3 := S5.c3; have s4 := S5.c4; have s5 := S5.c5; have s6 := S5.c6; have s7 := S5.c7; have h0 := H5.c0; have h1 := H5.c1
  go_wp2_with fail
  refine (HB.out _).mono ?_
  rintro e w6 ⟨rfl, k6⟩
  have X6 := X5.below k6; have S6 := S5.below k6; have L6 := L5.below k6; have B6 := bel_trans B5 k6
  clear X5 S5 L5 H5 B5 k6 s0 s1 s2 s3 s4 s5 s6 s7 h0 h1
  go_upto_region 6 with fail
  go_cut [62] (fun s62 wx => s62 = .bool false ∧ wx = w6)
  · cases is
    · go_wp2_with fail
      go_meet
      exact ⟨rfl, rfl⟩
    · obtain ⟨rfl, hmn⟩ := HM.out rfl
      go_wp2_with fail
      go_meet
      exact ⟨by rw [decide_eq_false (by omega)], rfl⟩
  obtain ⟨rfl, hw6⟩ := hcut
  rw [hw6]
  clear hw6
  have s0 := S6.c0; have s1 := S6.c1; have s2 := S6.c2; have s3 := S6.c3; have s4 := S6.c4; have s5 := S6.c5; have s6 := S6.c6; have s7 := S6.c7
  go_upto_region 8 with fail
  repeat ((fail_if_success guard_target =~ Code.wp _ (Code.seq (Code.seq _ _) _) _ _ _); go_step)
  apply wp_seq_k; intro _ _
  clear s0 s1 s2 s3 s4 s5 s6 s7
  obtain ⟨W7, hW7⟩ : ∃ W, W = w6.alloc (.cells (sv c p d n s l m k) 32) := ⟨_, rfl⟩
  have k7 : Below w6.heap.size w6 W7 := by rw [hW7]; go_grown
  obtain ⟨tb, htb⟩ : ∃ z, z = w6.heap.size := ⟨_, rfl⟩
  have T7 : SC W7 tb c p d n s l m k := by rw [hW7, htb]; exact ⟨by simp [go_sem], by simp [go_sem], by simp [go_sem], by simp [go_sem], by simp [go_sem], by simp [go_sem], by simp [go_sem], by simp [go_sem], fun j => by simp [go_sem]⟩
  rw [← hW7, ← htb]
  have X7 := X6.below k7; have S7 := S6.below k7; have L7 := L6.below k7; have B7 := bel_trans B6 k7
  have hxt : xb < tb := by rw [htb]; exact X6.lt
  have hst : xb + 1 < tb := by rw [htb]; exact S6.lt
  have hlt : lb < tb := by rw [htb]; exact lt_of_cell L6.c0
  have hwt : w.heap.size ≤ tb := by rw [htb]; exact B6.size
  clear hW7 htb X6 S6 L6 B6 k7
  go_cut [] (fun wx => ∃ d' n' l' m' k' : Int, SC wx tb c p d' n' s l' m' k' ∧ d' ≤ d ∧ 0 ≤ d' ∧ n' ≤ n ∧ 0 ≤ n' ∧ l' ≤ l ∧ 0 ≤ l' ∧ m' ≤ m ∧ 1 ≤ m' ∧ k' ≤ k ∧ 1 ≤ k' ∧ Below tb W7 wx)
  · have t2 := T7.c2; have t3 := T7.c3; have t5 := T7.c5; have t6 := T7.c6; have t7 := T7.c7; have z2 := T7.fz 2; have z3 := T7.fz 3; have z5 := T7.fz 5; have z6 := T7.fz 6; have z7 := T7.fz 7
    obtain ⟨-, hp0, hp1, hd0, hd1, hn0, hn1, hs0', hs1, hl0, hl1, hm0, hm1, hk0', hk1'⟩ := hsb
    have v0 : 0 ≤ q % 5 := Int.emod_nonneg _ (by omega)
    have v1 : q % 5 < 5 := Int.emod_lt_of_pos _ (by omega)
    have HQ := mod_any q 5 q0 q1 (by omega) (by omega)
    obtain ⟨v, hv⟩ : ∃ z, z = q % 5 := ⟨_, rfl⟩
    rw [← hv] at v0 v1 HQ
    clear hv
    go_wp2_with (go_at_call 25; refine (HQ _).mono ?_; rintro e w8 ⟨rfl, rfl⟩; clear HQ)
    all_goals go_meet
    all_goals first
      | exact ⟨_, _, _, _, _, T7.set6 _, by omega, by omega, by omega, by omega, by omega, by omega, by omega, by omega, by omega, by omega, (Below.refl tb w8).setCell (p := ⟨tb, 6, none⟩) (Nat.le_refl _) _⟩
      | exact ⟨_, _, _, _, _, T7.set7 _, by omega, by omega, by omega, by omega, by omega, by omega, by omega, by omega, by omega, by omega, (Below.refl tb w8).setCell (p := ⟨tb, 7, none⟩) (Nat.le_refl _) _⟩
      | exact ⟨_, _, _, _, _, T7.set5 _, by omega, by omega, by omega, by omega, by omega, by omega, by omega, by omega, by omega, by omega, (Below.refl tb w8).setCell (p := ⟨tb, 5, none⟩) (Nat.le_refl _) _⟩
      | exact ⟨_, _, _, _, _, T7.set2 _, by omega, by omega, by omega, by omega, by omega, by omega, by omega, by omega, by omega, by omega, (Below.refl tb w8).setCell (p := ⟨tb, 2, none⟩) (Nat.le_refl _) _⟩
      | exact ⟨_, _, _, _, _, T7.set3 _, by omega, by omega, by omega, by omega, by omega, by omega, by omega, by omega, by omega, by omega, (Below.refl tb w8).setCell (p := ⟨tb, 3, none⟩) (Nat.le_refl _) _⟩
  obtain ⟨d', n', l', m', k', T8, hd1, hd0, hn1, hn0, hl1, hl0, hm1, hm0, hk1', hk0', k8⟩ := hcut
  obtain ⟨W8, rfl⟩ : ∃ W : World, W = wc := ⟨_, rfl⟩
  have X8 := X7.low k8 hxt
  have S8 := S7.low k8 hst
  have L8 := L7.low k8 hlt
  have B8 := B7.trans (k8.mono hwt)
  clear X7 S7 L7 B7 T7 k8 hxt hst hlt q0 q1
  have ht0 : senE c p d' n' s l' m' k' = 0 := by
    obtain ⟨ha, hp0, hp1, hd0', hd1', hn0', hn1', hs0', hs1, hl0', hl1', hm0', hm1', hk00, hk11⟩ := hsb
    exact senE_of ha (by simp [sensB, wi]; omega)
  have hm2 := lateE_mono hs0 ht0 hk0 hk0 hd1 hl1 hk1' hn1 hm1 (Int.le_refl x0) (Int.le_refl x2)
  have hsoon := twoS_soon hs0 ht0 hk0 hd1 hl1 hk1' hn1 hm1
  have hC := late_all c p d' n' s l' m' k' x0 x2
  obtain ⟨⟨kk, are⟩, hC2⟩ : ∃ z, z = lateE c p d' n' s l' m' k' x0 x2 := ⟨_, rfl⟩
  rw [← hC2] at hC hm2 hsoon
  rw [← HA2.out] at hm2
  have HC : Aside (∀ w : World, Calls Try.prog 29 #[.agg (sv c p d' n' s l' m' k'), .agg #[.int .i64 x0, .int .i64 x2]] w fun e w' => e = .returned (.tuple #[.int .i64 kk, .bool are]) ∧ Below w.heap.size w w') := hC
  have HM2 : Aside (is = true → are = true ∧ kk ≤ nn) := hm2
  have HS2 : Aside (soonV (twoS c p d n s l m k c p d' n' s l' m' k') x0 x2 2 = if are = true then (kk, 0) else (0, 13)) := hsoon
  clear hC hm2 hsoon hC2 HA HB HM HA2
  have t0 := T8.c0; have t1 := T8.c1; have t2 := T8.c2; have t3 := T8.c3; have t4 := T8.c4; have t5 := T8.c5; have t6 := T8.c6; have t7 := T8.c7; have l0 := L8.c0; have l1 := L8.c1
  go_wp2_with fail
  refine (HC.out _).mono ?_
  rintro e w9 ⟨rfl, k9⟩
  have X9 := X8.below k9; have S9 := S8.below k9; have T9 := T8.below k9; have L9 := L8.below k9; have B9 := bel_trans B8 k9
  clear X8 S8 T8 L8 B8 k9 t0 t1 t2 t3 t4 t5 t6 t7 l0 l1
  go_upto_region 21 with fail
  go_cut [116] (fun s116 wx => s116 = .bool false ∧ wx = w9)
  · cases is
    · go_wp2_with fail
      go_meet
      exact ⟨rfl, rfl⟩
    · obtain ⟨rfl, hmn⟩ := HM2.out rfl
      go_wp2_with fail
      go_meet
      exact ⟨by rw [decide_eq_false (by omega)], rfl⟩
  obtain ⟨rfl, hw9⟩ := hcut
  rw [hw9]
  clear hw9
  have s0 := S9.c0; have s1 := S9.c1; have s2 := S9.c2; have s3 := S9.c3; have s4 := S9.c4; have s5 := S9.c5; have s6 := S9.c6; have s7 := S9.c7
  have t0 := T9.c0; have t1 := T9.c1; have t2 := T9.c2; have t3 := T9.c3; have t4 := T9.c4; have t5 := T9.c5; have t6 := T9.c6; have t7 := T9.c7
  have y0 := X9.c0; have y1 := X9.c1; have y2 := X9.c2; have y3 := X9.c3
  have hx9 : xb < w9.heap.size := X9.lt
  have hy9 : xb ≠ w9.heap.size := by omega
  have hse : sensE (twoS c p d n s l m k c p d' n' s l' m' k') 2 = 0 := twoS_sens hs0 ht0
  have hkb : kicksB x0 x1 x2 x3 = true := by simp [kicksB, hk0, hk1, e1, e4]
  have hle : latE (twoS c p d n s l m k c p d' n' s l' m' k') 2 x0 x1 x2 x3 = if are = true then (kk, 0) else (0, 13) := by
    unfold latE
    rw [if_neg (by simp [hse]), if_neg (by simp [hkb]), HS2.out]
  have HL : Aside (∀ (w : World), IsSens w (some ⟨w9.heap.size, 0, none⟩) 2 2 (twoS c p d n s l m k c p d' n' s l' m' k') → Calls Try.prog 33 #[.slice (some ⟨w9.heap.size, 0, none⟩) 2 2, .agg (kv x0 x1 x2 x3)] w fun e w' => e = .returned (.tuple #[.int .i64 (if are = true then (kk, (0 : Int)) else (0, 13)).1, .int .i64 (if are = true then (kk, (0 : Int)) else (0, 13)).2]) ∧ Below w.heap.size w w') := by
    intro w h
    have := latest_all (some ⟨w9.heap.size, 0, none⟩) 2 2 _ x0 x1 x2 x3 w h
    rw [hle] at this
    exact this
  have HCe : Aside (are = true → kk ≤ 10000 ∧ ∀ r : Nat, ∀ (w : World), IsSens w (some ⟨r, 0, none⟩) 2 2 (twoS c p d n s l m k c p d' n' s l' m' k') → Calls Try.prog 35 #[.slice (some ⟨r, 0, none⟩) 2 2, .agg #[.int .i64 x0, .int .i64 x2]] w fun e w' => e = .returned (.tuple #[.int .i64 kk, .int .i64 (gainV x0 x2 kk), .int .i64 0]) ∧ Below w.heap.size w w') := by
    intro ha
    have h2 := HS2.out
    rw [if_pos ha] at h2
    refine ⟨?_, fun r w h => ?_⟩
    · have := soonV_bd (twoS c p d n s l m k c p d' n' s l' m' k') x0 x2 2
      rw [h2] at this
      exact this
    · have h3 := caught_all (some ⟨r, 0, none⟩) 2 2 _ x0 x2 w h
      unfold caughtE at h3
      rw [if_neg (by simp [hse]), if_neg (by simp [hk0]), if_neg (by simp [h2]), h2] at h3
      exact h3
  clear hse hkb hle HS2
  go_wp2_with fail
  refine (HL.out _ (twoS_is _ _ _ _ _ _ _ _ _ _ _ _ _ _ _ _ _ _)).mono ?_
  rintro e w10 ⟨rfl, k10⟩
  have k11 : Below w9.heap.size w9 w10 := bel_trans (by go_grown) k10
  have S10 := S9.below k11; have T10 := T9.below k11; have L10 := L9.below k11; have B10 := bel_trans B9 k11
  clear X9 S9 T9 L9 B9 k11 k10 y0 y1 y2 y3 hx9 hy9 s0 s1 s2 s3 s4 s5 s6 s7 t0 t1 t2 t3 t4 t5 t6 t7 HL
  cases are
  · have hi : is = false := by
      cases is
      · rfl
      · have := (HM2.out rfl).1
        simp at this
    subst hi
    simp only [Bool.false_eq_true, if_false]
    go_wp2_with (go_at_call 13; refine (awake_any _).mono ?_; rintro e w11 ⟨rfl, k12⟩)
    go_ret
    exact ⟨rfl, bel_trans B10 k12⟩
  · obtain ⟨hkk, hca⟩ := HCe.out rfl
    have HCa : Aside (∀ r : Nat, ∀ (w : World), IsSens w (some ⟨r, 0, none⟩) 2 2 (twoS c p d n s l m k c p d' n' s l' m' k') → Calls Try.prog 35 #[.slice (some ⟨r, 0, none⟩) 2 2, .agg #[.int .i64 x0, .int .i64 x2]] w fun e w' => e = .returned (.tuple #[.int .i64 kk, .int .i64 (gainV x0 x2 kk), .int .i64 0]) ∧ Below w.heap.size w w') := hca
    clear hca HCe HM2
    simp only [if_true]
    have s0 := S10.c0; have s1 := S10.c1; have s2 := S10.c2; have s3 := S10.c3; have s4 := S10.c4; have s5 := S10.c5; have s6 := S10.c6; have s7 := S10.c7
    have t0 := T10.c0; have t1 := T10.c1; have t2 := T10.c2; have t3 := T10.c3; have t4 := T10.c4; have t5 := T10.c5; have t6 := T10.c6; have t7 := T10.c7
    have l0 := L10.c0; have l1 := L10.c1
    have hx9 : lb < w10.heap.size := lt_of_cell l0
    have hy9 : lb ≠ w10.heap.size := by omega
    go_wp2_with fail
    all_goals
      refine (HCa.out _ _ (twoS_is _ _ _ _ _ _ _ _ _ _ _ _ _ _ _ _ _ _)).mono ?_
      rintro e w12 ⟨rfl, k12⟩
      have k13 : Below w10.heap.size w10 w12 := bel_trans (by go_grown) k12
      have L12 := L10.below k13; have B12 := bel_trans B10 k13
      clear S10 T10 L10 B10 k13 k12 s0 s1 s2 s3 s4 s5 s6 s7 t0 t1 t2 t3 t4 t5 t6 t7 l0 l1 hx9 hy9 HCa
      have l0 := L12.c0; have l1 := L12.c1
      go_wp2_with fail
      refine (gain_any x0 x2 kk hk0 (by omega) _).mono ?_
      rintro e w13 ⟨rfl, k13⟩
      have B13 := bel_trans B12 k13
      clear L12 l0 l1 k13 B12
      go_wp2_with (go_at_call 13; refine (awake_any _).mono ?_; rintro e w14 ⟨rfl, k14⟩)
      go_ret
      exact ⟨rfl, bel_trans B13 k14⟩

set_option maxRecDepth 100000 in
theorem liftedKickOrder (os : Os) (started : os.Started) (H : Type) (enc : TypeId × Value → H) :
    ReturnsInHanded {} Try.checked os 9 .any (Rows.kickOrderSpec.pre6 enc Try.prog Try.f9 Rows.kickOrderRow.domain false) (Rows.kickOrderSpec.post enc Try.prog Try.f9 false true false false) := by
  refine returnsInHanded_of_change (C := Try.checked) own started (by kernel_rfl) Try.func9
    (ChangeSpec.witness6 (enc := enc) (C := Try.checked) false ⟨#[], #[.slice none 0 0, .int .i64 0], []⟩ 16 (by kernel_rfl) (by kernel_rfl) (by kernel_rfl) (by kernel_rfl)) ?_
  intro W base args ds gs before hval0 hW hcnd _
  have hval : ∀ (j : Nat) t v, Try.f9.params[j]? = some t → args[j]? = some v → Value.okWide Try.prog W .any base t v := hval0
  have hW' := hW
  obtain ⟨p, q, hA0, hV, rfl, hfz, hnd⟩ := hW
  have hA : DataW.TrodAll enc Try.prog W 0 (fun _ => true) true Try.f9.params.toList args.toList ds p := hA0
  rw [Try.params9] at hA hval
  obtain ⟨v0, vs0, d0, ds0, p0, q0, hargs, rfl, rfl, h0, r0⟩ := trodAll_cons hA
  obtain ⟨v1, vs1, d1, ds1, p1, q1, rfl, rfl, rfl, h1, r1⟩ := trodAll_cons r0
  obtain ⟨rfl, rfl, rfl⟩ := trodAll_nil r1
  obtain rfl : args = #[v0, v1] := by cases args; simp_all
  obtain ⟨rfl, rfl⟩ := trodVars_none hV
  have k0 := h0
  have lt0 : ∀ x ∈ p0, x.block < W.heap.size := by obtain ⟨m, hm⟩ := k0; exact DataW.trod_lt m _ _ _ hm
  obtain ⟨a0, len0, cap0, z0, rfl, w0⟩ := val_ints Try.underlying24 Try.underlying3 (by kernel_rfl) (hval 0 _ v0 rfl rfl) h0
  have k1 := h1
  have lt1 : ∀ x ∈ p1, x.block < W.heap.size := by obtain ⟨m, hm⟩ := k1; exact DataW.trod_lt m _ _ _ hm
  obtain ⟨a1, rfl, b1⟩ := val_int (by kernel_rfl) (hval 1 _ v1 rfl rfl)
  clear hA0 hval0
  refine (walkOrder W a0 len0 cap0 z0 w0 a1 b1).mono fun e W' ⟨he, bel⟩ => ?_
  subst he
  exact ⟨_, rfl, _, _, _, [], _, [], hW', trodAll_mk1 (shut_bool Try.underlying4 _), (trodAll_cons_mk (Below.trod laidOut (by kernel_rfl) (of_decide_eq_true (by kernel_rfl)) k0 bel lt0) (trodAll_cons_mk (Below.trod laidOut (by kernel_rfl) (of_decide_eq_true (by kernel_rfl)) k1 bel lt1) trodAll_mk0)), rfl, bel.frame _, fun h => by cases h⟩

/-- KickOrder returns true for every input. -/
theorem kickOrder_holds : Rows.KickOrderSaid :=
  OpenClaim.holds_of_wide 9 Try.f9 rfl rfl rfl rfl rfl rfl rfl ⟨rfl, rfl, rfl, rfl, rfl⟩ rfl rfl rfl rfl rfl (by kernel_rfl) Try.func9 (by kernel_rfl)
    (of_decide_eq_true (by kernel_rfl)) (by unfold Func.isWrapper; first | (rw [if_pos (by decide +kernel)]; kernel_rfl) | (rw [if_neg (by decide +kernel)]; exact ⟨rfl, rfl⟩))
    (fun os started H enc _ => liftedKickOrder os started H enc)

end Go.Proofs.Ytngcfohmlppghaa
