/- HouseCloses holds for every input: of the wild well those states are safe from which the gas does not reach the limit until the well is closed; and the examples hold. No condition. -/
import Derived.Test.YtgohbjlfgiohiaaHi
import Derived.Test.YtgohbjlfgiohiaaHk
import Derived.Test.YtgohbjlfgiohiaaHm
import Derived.Test.YtgohbjlfgiohiaaKr
namespace Go.Proofs.Ytgohbjlfgiohiaa
open Go.ChangeShapes Go.WideShapes Go.ChangeAt Go.RowKit

theorem wild_at (L T v c : Nat) (hv : v ≤ L) (hc : c ≤ T) : v * (T + 1) + c < (L + 1) * (T + 1) := by
  have h1 := Nat.mul_le_mul hv (Nat.le_refl (T + 1))
  rw [Nat.succ_mul]
  omega
theorem wMv_to {L R T v c k : Nat} (hc : c ≤ T) (h : c ≠ T) : (wMv L R T (v * (T + 1) + c) k).toNat = min L (v + R) * (T + 1) + (c + k) := by
  unfold wMv
  rw [wild_mod (by omega), wild_div (by omega), if_neg h, Int.toNat_natCast, Nat.add_assoc]
/-- What is safe stays below the limit. -/
theorem wild_below {L R T : Nat} (r1 : 1 ≤ R) {s : Nat → Bool} (h : IsSafe ((L + 1) * (T + 1)) (wLost L T) (fun _ => 2) (wMv L R T) s) :
    ∀ m v c, v ≤ L → c ≤ T → (T - c) * (L + 1) + (L - v) ≤ m → L ≤ v + (T - c) * R → s (v * (T + 1) + c) = false := by
  intro m
  induction m with
  | zero =>
    intro v c hv hc hm hL
    have hvL : v = L := by omega
    cases e : s (v * (T + 1) + c)
    · rfl
    · have := (h.post _ (wild_at L T v c hv hc) e).1
      rw [wLost_at (by omega), hvL] at this
      simp at this
  | succ m ih =>
    intro v c hv hc hm hL
    cases e : s (v * (T + 1) + c)
    · rfl
    · obtain ⟨hl, q, hq, hx⟩ := h.post _ (wild_at L T v c hv hc) e
      rw [wLost_at (by omega)] at hl
      have hvL : v < L := by
        rcases Nat.lt_or_ge v L with h | h
        · exact h
        · have : v = L := by omega
          rw [this] at hl
          simp at hl
      have hcT : c ≠ T := by
        intro hcT
        subst hcT
        simp at hL
        omega
      rw [wMv_to hc hcT] at hx
      have hmin : min L (v + R) ≤ L := Nat.min_le_left _ _
      have hmin2 : v + 1 ≤ min L (v + R) := by rw [Nat.le_min]; omega
      have hsplit : (T - c) * R = (T - (c + 1)) * R + R := by
        rw [← Nat.succ_mul]; congr 1; omega
      have hsplit2 : (T - c) * (L + 1) = (T - (c + 1)) * (L + 1) + (L + 1) := by
        rw [← Nat.succ_mul]; congr 1; omega
      have hcase : min L (v + R) = L ∨ min L (v + R) = v + R := by omega
      match q, hq with
      | 0, _ =>
        have := ih (min L (v + R)) c hmin hc (by omega) (by omega)
        rw [show c + 0 = c from rfl] at hx
        rw [this] at hx; cases hx
      | 1, _ =>
        have := ih (min L (v + R)) (c + 1) hmin (by omega) (by omega) (by omega)
        rw [this] at hx; cases hx
/-- The states that are safe. -/
def wSafe (L R T : Nat) (i : Nat) : Bool := decide (i / (T + 1) + (T - i % (T + 1)) * R < L)
theorem wild_post {L R T : Nat} : Post ((L + 1) * (T + 1)) (wLost L T) (fun _ => 2) (wMv L R T) (wSafe L R T) := by
  intro i hi hg
  obtain ⟨v, hv⟩ : ∃ v, v = i / (T + 1) := ⟨_, rfl⟩
  obtain ⟨c, hc⟩ : ∃ c, c = i % (T + 1) := ⟨_, rfl⟩
  have hcT : c < T + 1 := by rw [hc]; exact Nat.mod_lt _ (by omega)
  have hii : i = v * (T + 1) + c := by rw [hv, hc]; have := Nat.div_add_mod i (T + 1); rw [Nat.mul_comm]; exact this.symm
  unfold wSafe at hg
  rw [← hv, ← hc] at hg
  have hg' : v + (T - c) * R < L := by simpa using hg
  rw [hii]
  refine ⟨?_, ?_⟩
  · rw [wLost_at hcT]
    have hlt : v < L := Nat.lt_of_le_of_lt (Nat.le_add_right _ _) hg'
    have : ¬ (v : Int) = L := by omega
    simpa using this
  · by_cases e : c = T
    · refine ⟨0, Nat.zero_lt_succ _, ?_⟩
      unfold wMv
      rw [wild_mod hcT, if_pos e, Int.toNat_natCast]
      unfold wSafe
      rw [wild_mod hcT, wild_div hcT]
      simpa using hg'
    · refine ⟨1, Nat.lt_succ_self _, ?_⟩
      have hsplit : (T - c) * R = (T - (c + 1)) * R + R := by
        rw [← Nat.succ_mul]; congr 1; omega
      rw [wMv_to (by omega) e]
      unfold wSafe
      rw [wild_mod (by omega), wild_div (by omega), Nat.min_eq_right (by omega)]
      simp
      omega
theorem wild_safe {L R T : Nat} (r1 : 1 ≤ R) {s : Nat → Bool} (h : IsSafe ((L + 1) * (T + 1)) (wLost L T) (fun _ => 2) (wMv L R T) s) (v c : Nat) (hv : v ≤ L) (hc : c ≤ T) :
    s (v * (T + 1) + c) = decide (v + (T - c) * R < L) := by
  by_cases e : v + (T - c) * R < L
  · have h1 := h.big _ wild_post _ (wild_at L T v c hv hc) (by unfold wSafe; rw [wild_mod (by omega), wild_div (by omega)]; simpa using e)
    rw [h1]; simp [e]
  · rw [wild_below r1 h _ v c hv hc (Nat.le_refl _) (by omega)]; simp [e]
set_option maxRecDepth 100000 in
set_option maxHeartbeats 4000000 in
theorem closes_any (w : World) (l : Int) (hl : IntKind.i64.has l) (r : Int) (hr : IntKind.i64.has r) (t : Int) (ht : IntKind.i64.has t) (v : Int) (hv : IntKind.i64.has v) (c : Int) (hc : IntKind.i64.has c) :
    Calls Try.prog 7 #[.int .i64 l, .int .i64 r, .int .i64 t, .int .i64 v, .int .i64 c] w fun e w' => e = .returned (.bool true) ∧ Below w.heap.size w w' := by
  obtain ⟨l0, l1⟩ := has_bd hl
  obtain ⟨r0, r1⟩ := has_bd hr
  obtain ⟨t0, t1⟩ := has_bd ht
  obtain ⟨v0, v1⟩ := has_bd hv
  obtain ⟨c0, c1⟩ := has_bd hc
  obtain ⟨L, hL⟩ : ∃ L : Nat, (L : Int) = 1 + l % 15 := ⟨(1 + l % 15).toNat, by omega⟩
  obtain ⟨R, hR⟩ : ∃ R : Nat, (R : Int) = 1 + r % 15 := ⟨(1 + r % 15).toNat, by omega⟩
  obtain ⟨T, hT⟩ : ∃ T : Nat, (T : Int) = t % 4 := ⟨(t % 4).toNat, by omega⟩
  have L1 : 1 ≤ L := by omega
  have L2 : L ≤ 15 := by omega
  have R1 : 1 ≤ R := by omega
  have R2 : R ≤ 15 := by omega
  have T2 : T ≤ 3 := by omega
  obtain ⟨V, hV⟩ : ∃ V : Nat, (V : Int) = v % ((L : Int) + 1) := ⟨(v % ((L : Int) + 1)).toNat, by have := Int.emod_nonneg v (show (L : Int) + 1 ≠ 0 by omega); omega⟩
  obtain ⟨Cc, hC⟩ : ∃ Cc : Nat, (Cc : Int) = c % ((T : Int) + 1) := ⟨(c % ((T : Int) + 1)).toNat, by have := Int.emod_nonneg c (show (T : Int) + 1 ≠ 0 by omega); omega⟩
  have V2 : V ≤ L := by have := Int.emod_lt_of_pos v (show (0 : Int) < (L : Int) + 1 by omega); omega
  have C2 : Cc ≤ T := by have := Int.emod_lt_of_pos c (show (0 : Int) < (T : Int) + 1 by omega); omega
  have HL : Aside ((L : Int) = 1 + l % 15) := hL
  have HR : Aside ((R : Int) = 1 + r % 15) := hR
  have HT : Aside ((T : Int) = t % 4) := hT
  have HV : Aside ((V : Int) = v % ((L : Int) + 1)) := hV
  have HC : Aside ((Cc : Int) = c % ((T : Int) + 1)) := hC
  clear hL hR hT hV hC hl hr ht hv hc
  go_enter Try.func7, Try.ntmps7
  go_upto_region 1 with fail
  go_cut [0, 1, 2] (fun s0 s1 s2 wx => s0 = .int .i64 L ∧ s1 = .int .i64 R ∧ s2 = .int .i64 T ∧ w = wx)
  · go_wp2_with (go_at_call 28; refine (mod_any _ _ (by omega) (by omega) (by omega) (by omega) _).mono ?_; rintro e w' ⟨rfl, rfl⟩)
    go_meet
    exact ⟨by rw [HL.out], by rw [HR.out], by rw [HT.out], rfl⟩
  obtain ⟨rfl, rfl, rfl, rfl⟩ := hcut
  obtain ⟨N, hN⟩ : ∃ N, N = (L + 1) * (T + 1) := ⟨_, rfl⟩
  have HN : Aside (N = (L + 1) * (T + 1)) := hN
  have hW := wild_ok L R T L1 L2 R1 R2 T2 w
  unfold WildOut at hW
  rw [← hN] at hW
  have HW : Aside (Calls Try.prog 18 #[.int .i64 L, .int .i64 R, .int .i64 T] w fun e w' => ∃ lb mb lc mc P C, e = .returned (.tuple #[.agg (bv lb 0 mb 0 N lc mc), .int .i64 0]) ∧ BIs w' lb 0 mb 0 N (wLost L T) P (fun _ => 0) C (fun _ => 2) (wMv L R T) ∧ Below w.heap.size w w') := hW
  clear hW hN
  go_upto_region 5 with (go_at_call 18; refine HW.out.mono ?_; rintro e w1 ⟨lb, mb, lc, mc, P, C, rfl, hI, hb1⟩)
  have HI : Aside (BIs w1 lb 0 mb 0 N (wLost L T) P (fun _ => 0) C (fun _ => 2) (wMv L R T)) := hI
  clear hI HW
  go_cut [3, 4] (fun s3 s4 wx => s3 = .int .i64 V ∧ s4 = .int .i64 Cc ∧ w1.alloc (.cells (bv lb 0 mb 0 N lc mc) 25) = wx)
  · go_wp2_with (go_at_call 28; refine (mod_any _ _ (by omega) (by omega) (by omega) (by omega) _).mono ?_; rintro e w' ⟨rfl, rfl⟩)
    go_meet
    exact ⟨by rw [HV.out], by rw [HC.out], rfl⟩
  obtain ⟨rfl, rfl, hW⟩ := hcut
  have b1 : Below w1.heap.size w1 wc := by rw [← hW]; go_grown
  have c0 : wc.cell? ⟨w1.heap.size, 0, none⟩ = some (.slice (some ⟨lb, 0, none⟩) N lc) := by rw [← hW]; simp [go_sem]
  have c1 : wc.cell? ⟨w1.heap.size, 1, none⟩ = some (.slice (some ⟨mb, 0, none⟩) N mc) := by rw [← hW]; simp [go_sem]
  have hb2 := below_next hb1 b1
  have HI2 : Aside (BIs wc lb 0 mb 0 N (wLost L T) P (fun _ => 0) C (fun _ => 2) (wMv L R T)) := HI.out.below b1
  clear hW HI
  have hok : Okb N (fun _ => 2) (wMv L R T) := by
    have hN := HN.out
    have hle : (L + 1) * (T + 1) ≤ 16 * 4 := Nat.mul_le_mul (by omega) (by omega)
    have hpos : 0 < (L + 1) * (T + 1) := Nat.mul_pos (by omega) (by omega)
    refine ⟨by omega, by omega, fun _ _ => Nat.le_succ 1, fun _ _ => by simp, fun i k _ _ => ?_, fun i k hi hk => ?_⟩
    · unfold wMv; split <;> omega
    · unfold wMv
      split
      · omega
      · rename_i h
        have hm : i % (T + 1) < T + 1 := Nat.mod_lt _ (by omega)
        have h1 := wild_at L T (min L (i / (T + 1) + R)) (i % (T + 1) + 1) (Nat.min_le_left _ _) (by omega)
        have hk' : k < 2 := hk
        omega
  go_wp2_with fail
  refine (safe_ok hok _ HI2.out).mono ?_
  rintro e w2 ⟨a, s, rfl, hrow, -, hb3, hS⟩
  have hat : V * (T + 1) + Cc < N := by rw [HN.out]; exact wild_at L T V Cc V2 C2
  have hrowAt := hrow _ hat
  rw [HN.out] at hS
  rw [wild_safe (s := s) R1 hS V Cc V2 C2] at hrowAt
  have hb4 := below_next hb2 hb3
  obtain ⟨y, hy⟩ : ∃ y, y = decide (V + (T - Cc) * R < L) := ⟨_, rfl⟩
  rw [← hy] at hrowAt
  have hv1 : V * (T + 1) ≤ 15 * 4 := Nat.mul_le_mul (by omega) (by omega)
  have hv2 : (V : Int) * ((T : Int) + 1) = ((V * (T + 1) : Nat) : Int) := by simp
  have hv3 : (T - Cc) * R ≤ 3 * 15 := Nat.mul_le_mul (by omega) (by omega)
  have hv4 : ((T : Int) - (Cc : Int)) * (R : Int) = (((T - Cc) * R : Nat) : Int) := by rw [Int.natCast_mul, Int.ofNat_sub C2]
  obtain ⟨A, hA⟩ : ∃ A : Nat, A = V * (T + 1) + Cc := ⟨_, rfl⟩
  obtain ⟨B, hB⟩ : ∃ B : Nat, B = (T - Cc) * R := ⟨_, rfl⟩
  have hy2 : decide ((V : Int) + (B : Int) < (L : Int)) = y := by rw [hy, hB]; congr 1; apply propext; constructor <;> intro h <;> omega
  rw [← hA] at hrowAt hat
  have hA' : (V : Int) * ((T : Int) + 1) + (Cc : Int) = (A : Int) := by omega
  have hB' : ((T : Int) - (Cc : Int)) * (R : Int) = (B : Int) := by omega
  have g1 : 0 ≤ (V : Int) * ((T : Int) + 1) := by omega
  have g2 : (V : Int) * ((T : Int) + 1) ≤ 60 := by omega
  have g3 : (A : Int) < N := by omega
  have g4 : (B : Int) ≤ 45 := by omega
  clear hS hrow hb3 hb1 hb2 c0 c1 b1 hy hv1 hv2 hv3 hv4 hA hB
  have g5 : 0 ≤ (T : Int) - (Cc : Int) := by omega
  cases y
  all_goals
    go_wp2_with (go_at_call 8; refine (awake10 _).mono ?_; rintro e w5 ⟨rfl, hb5⟩)
    go_ret
    exact ⟨rfl, below_next hb4 hb5⟩
set_option maxRecDepth 100000 in
theorem liftedHouseCloses (os : Os) (started : os.Started) (H : Type) (enc : TypeId × Value → H) :
    ReturnsInHanded {} Try.checked os 7 .any (Rows.houseClosesSpec.pre6 enc Try.prog Try.f7 Rows.houseClosesRow.domain false) (Rows.houseClosesSpec.post enc Try.prog Try.f7 false true false false) := by
  refine returnsInHanded_of_change (C := Try.checked) own started (by kernel_rfl) Try.func7
    (ChangeSpec.witness6 (enc := enc) (C := Try.checked) false ⟨#[], #[.int .i64 0, .int .i64 0, .int .i64 0, .int .i64 0, .int .i64 0], []⟩ 16 (by kernel_rfl) (by kernel_rfl) (by kernel_rfl) (by kernel_rfl)) ?_
  intro W base args ds gs before hval0 hW hcnd _
  have hval : ∀ (j : Nat) t v, Try.f7.params[j]? = some t → args[j]? = some v → Value.okWide Try.prog W .any base t v := hval0
  have hW' := hW
  obtain ⟨p, q, hA0, hV, rfl, hfz, hnd⟩ := hW
  have hA : DataW.TrodAll enc Try.prog W 0 (fun _ => true) true Try.f7.params.toList args.toList ds p := hA0
  rw [Try.params7] at hA hval
  obtain ⟨v0, vs0, d0, ds0, p0, q0, hargs, rfl, rfl, h0, r0⟩ := trodAll_cons hA
  obtain ⟨v1, vs1, d1, ds1, p1, q1, rfl, rfl, rfl, h1, r1⟩ := trodAll_cons r0
  obtain ⟨v2, vs2, d2, ds2, p2, q2, rfl, rfl, rfl, h2, r2⟩ := trodAll_cons r1
  obtain ⟨v3, vs3, d3, ds3, p3, q3, rfl, rfl, rfl, h3, r3⟩ := trodAll_cons r2
  obtain ⟨v4, vs4, d4, ds4, p4, q4, rfl, rfl, rfl, h4, r4⟩ := trodAll_cons r3
  obtain ⟨rfl, rfl, rfl⟩ := trodAll_nil r4
  obtain rfl : args = #[v0, v1, v2, v3, v4] := by cases args; simp_all
  obtain ⟨rfl, rfl⟩ := trodVars_none hV
  have k0 := h0
  have lt0 : ∀ x ∈ p0, x.block < W.heap.size := by obtain ⟨m, hm⟩ := k0; exact DataW.trod_lt m _ _ _ hm
  obtain ⟨a0, rfl, b0⟩ := val_int (by kernel_rfl) (hval 0 _ v0 rfl rfl)
  have k1 := h1
  have lt1 : ∀ x ∈ p1, x.block < W.heap.size := by obtain ⟨m, hm⟩ := k1; exact DataW.trod_lt m _ _ _ hm
  obtain ⟨a1, rfl, b1⟩ := val_int (by kernel_rfl) (hval 1 _ v1 rfl rfl)
  have k2 := h2
  have lt2 : ∀ x ∈ p2, x.block < W.heap.size := by obtain ⟨m, hm⟩ := k2; exact DataW.trod_lt m _ _ _ hm
  obtain ⟨a2, rfl, b2⟩ := val_int (by kernel_rfl) (hval 2 _ v2 rfl rfl)
  have k3 := h3
  have lt3 : ∀ x ∈ p3, x.block < W.heap.size := by obtain ⟨m, hm⟩ := k3; exact DataW.trod_lt m _ _ _ hm
  obtain ⟨a3, rfl, b3⟩ := val_int (by kernel_rfl) (hval 3 _ v3 rfl rfl)
  have k4 := h4
  have lt4 : ∀ x ∈ p4, x.block < W.heap.size := by obtain ⟨m, hm⟩ := k4; exact DataW.trod_lt m _ _ _ hm
  obtain ⟨a4, rfl, b4⟩ := val_int (by kernel_rfl) (hval 4 _ v4 rfl rfl)
  clear hA0 hval0
  refine (closes_any W a0 b0 a1 b1 a2 b2 a3 b3 a4 b4).mono fun e W' ⟨he, bel⟩ => ?_
  subst he
  exact ⟨_, rfl, _, _, _, [], _, [], hW', trodAll_mk1 (shut_bool Try.underlying4 _), (trodAll_cons_mk (Below.trod laidOut (by kernel_rfl) (of_decide_eq_true (by kernel_rfl)) k0 bel lt0) (trodAll_cons_mk (Below.trod laidOut (by kernel_rfl) (of_decide_eq_true (by kernel_rfl)) k1 bel lt1) (trodAll_cons_mk (Below.trod laidOut (by kernel_rfl) (of_decide_eq_true (by kernel_rfl)) k2 bel lt2) (trodAll_cons_mk (Below.trod laidOut (by kernel_rfl) (of_decide_eq_true (by kernel_rfl)) k3 bel lt3) (trodAll_cons_mk (Below.trod laidOut (by kernel_rfl) (of_decide_eq_true (by kernel_rfl)) k4 bel lt4) trodAll_mk0))))), rfl, bel.frame _, fun h => by cases h⟩

/-- HouseCloses returns true for every input. -/
theorem houseCloses_holds : Rows.HouseClosesSaid :=
  OpenClaim.holds_of_wide 7 Try.f7 rfl rfl rfl rfl rfl rfl rfl ⟨rfl, rfl, rfl, rfl, rfl⟩ rfl rfl rfl rfl rfl (by kernel_rfl) Try.func7 (by kernel_rfl)
    (of_decide_eq_true (by kernel_rfl)) (by unfold Func.isWrapper; first | (rw [if_pos (by decide +kernel)]; kernel_rfl) | (rw [if_neg (by decide +kernel)]; exact ⟨rfl, rfl⟩))
    (fun os started H enc _ => liftedHouseCloses os started H enc)

end Go.Proofs.Ytgohbjlfgiohiaa
