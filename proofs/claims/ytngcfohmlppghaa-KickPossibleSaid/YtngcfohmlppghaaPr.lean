/- The contract of the reference's Possible: the same answer. -/
import Derived.Test.YtngcfohmlppghaaPo
namespace Go.Proofs.Ytngcfohmlppghaa
open Go.RowKit

/-- A value lies within the noise, a whole number of steps away. -/
def nearB (Y n s v : Int) : Bool := wi v (Y - n * s) (Y + n * s) && ((v - Y).tmod s == 0)
theorem near_iff {Y n s v : Int} (s0 : 1 ≤ s) : nearB Y n s v = true ↔ ∃ e, -n ≤ e ∧ e ≤ n ∧ Y + e * s = v := by
  unfold nearB wi
  simp only [Bool.and_eq_true, decide_eq_true_eq, beq_iff_eq]
  constructor
  · rintro ⟨⟨h1, h2⟩, h3⟩
    obtain ⟨e, he⟩ := Int.dvd_of_tmod_eq_zero h3
    refine ⟨e, ?_, ?_, by rw [Int.mul_comm e s]; omega⟩
    · have : (-n) * s ≤ e * s := by rw [Int.neg_mul, Int.mul_comm e s]; omega
      exact Int.le_of_mul_le_mul_right this (by omega)
    · have : e * s ≤ n * s := by rw [Int.mul_comm e s]; omega
      exact Int.le_of_mul_le_mul_right this (by omega)
  · rintro ⟨e, h1, h2, h3⟩
    have h4 : (-n) * s ≤ e * s := Int.mul_le_mul_of_nonneg_right h1 (by omega)
    have h5 : e * s ≤ n * s := Int.mul_le_mul_of_nonneg_right h2 (by omega)
    rw [Int.neg_mul] at h4
    refine ⟨by omega, ?_⟩
    have : v - Y = e * s := by omega
    rw [this]
    exact Int.mul_tmod_left e s

set_option maxRecDepth 100000 in
set_option maxHeartbeats 2000000 in
theorem measured_any (c p d n s l m k r g t v : Int) (hc : c = 1 ∨ c = 2) (hb : sensB p d n s l m k = true) (hk : kickB r g = true) (w : World) :
    Calls Try.prog 64 #[.agg (sv c p d n s l m k), .agg #[.int .i64 r, .int .i64 g], .int .i64 t, .int .i64 v] w fun e' w' => e' = .returned (.bool (decide (t ≤ 20000) && nearB (sayV c r g t) n s v)) ∧ Below w.heap.size w w' := by
  obtain ⟨-, -, ⟨n0, n1⟩, ⟨s0, s1⟩, -, -, -, -, -⟩ := fit_of (c := c) hb hk
  obtain ⟨E, hE⟩ : ∃ E, E = (decide (t ≤ 20000) && nearB (sayV c r g t) n s v) := ⟨_, rfl⟩
  have HE : Aside (E = (decide (t ≤ 20000) && nearB (sayV c r g t) n s v)) := hE
  have HT : Aside (∀ e, -n ≤ e → e ≤ n → t ≤ 20000 → sayV c r g t + e * s = v → E = true) := by
    intro e h1 h2 h3 h4
    rw [hE]
    have := (near_iff (Y := sayV c r g t) (n := n) (v := v) s0).2 ⟨e, h1, h2, h4⟩
    simp [h3, this]
  have HN : Aside ((∀ e, -n ≤ e → e ≤ n → ¬ (t ≤ 20000 ∧ sayV c r g t + e * s = v)) → E = false) := by
    intro h
    rw [hE]
    by_cases h3 : t ≤ 20000
    · cases hx : nearB (sayV c r g t) n s v
      · simp
      · obtain ⟨e, h1, h2, h4⟩ := (near_iff s0).1 hx
        exact (h e h1 h2 ⟨h3, h4⟩).elim
    · simp [h3]
  rw [← hE]
  clear hE HE
  have hw : wrap64 (-n) = -n := IntWalk.wrap64_in _ (by omega)
  go_enter Try.func64, Try.ntmps64
  go_wp2_with fail
  obtain ⟨W1, hW1⟩ : ∃ W, W = (w.alloc (.cells (sv c p d n s l m k) 32)).alloc (.cells #[.int .i64 r, .int .i64 g] 29) := ⟨_, rfl⟩
  have S1 : SC W1 w.heap.size c p d n s l m k := by rw [hW1]; exact ⟨by simp [go_sem, World.cell?_alloc_past], by simp [go_sem, World.cell?_alloc_past], by simp [go_sem, World.cell?_alloc_past], by simp [go_sem, World.cell?_alloc_past], by simp [go_sem, World.cell?_alloc_past], by simp [go_sem, World.cell?_alloc_past], by simp [go_sem, World.cell?_alloc_past], by simp [go_sem, World.cell?_alloc_past], fun j => by simp [go_sem]⟩
  have Q1 : KC W1 (w.heap.size + 1) r g := by rw [hW1]; exact ⟨by simp [go_sem], by simp [go_sem]⟩
  have hbW : Below w.heap.size w W1 := by rw [hW1]; go_grown
  rw [← hW1]
  clear hW1
  obtain ⟨F, hF⟩ : ∃ F : Nat, (F : Int) = 2 * n + 1 := ⟨(2 * n + 1).toNat, by omega⟩
  go_loopg [9] F (fun f ve wr => ∃ e : Int, ve = .int .i64 e ∧ -n ≤ e ∧ e + f = n + 1 ∧ Below W1.heap.size W1 wr ∧ Aside (∀ e', -n ≤ e' → e' < e → ¬ (t ≤ 20000 ∧ sayV c r g t + e' * s = v)))
  case atStart => exact ⟨-n, rfl, by omega, by omega, Below.refl _ _, fun e' h1 h2 => by omega⟩
  case round =>
    obtain ⟨e, rfl, he0, he1, hbx, HA⟩ := hrel
    have S2 := S1.below hbx
    have Q2 := Q1.below hbx
    have c3 := S2.c3
    cases gk with
    | zero =>
      have hx : ¬ e ≤ n := by omega
      have HZ : Aside (E = false) := HN.out (fun e' h1 h2 => HA.out e' h1 (by omega))
      clear HA HN HT
      go_wp2_with fail
      go_ret
      rw [HZ.out]
      exact ⟨rfl, hbW.trans (hbx.mono hbW.size)⟩
    | succ f =>
      have hx : e ≤ n := by omega
      have c0 := S2.c0; have c1 := S2.c1; have c2 := S2.c2; have c4 := S2.c4; have c5 := S2.c5; have c6 := S2.c6; have c7 := S2.c7; have q0 := Q2.c0; have q1 := Q2.c1
      by_cases ht : t ≤ 20000
      · have hwi : wi e (-n) n = true := by simp [wi]; omega
        have hv := rvalue_ok c p d n s l m k r g t e hc hb hk hwi ht
        obtain ⟨Y, hY⟩ : ∃ z, z = sayV c r g t + e * s := ⟨_, rfl⟩
        rw [← hY] at hv
        have HV : Aside (∀ w : World, Calls Try.prog 84 #[.agg (sv c p d n s l m k), .agg #[.int .i64 r, .int .i64 g], .int .i64 t, .int .i64 e] w fun e' w' => e' = .returned (.int .i64 Y) ∧ Below w.heap.size w w') := hv
        have HY : Aside (Y = sayV c r g t + e * s) := hY
        clear hv hY hwi
        go_wp2_with fail
        refine (HV.out _).mono ?_
        rintro e2 w2 ⟨rfl, hb2⟩
        have hbx2 := hbx.trans (hb2.mono hbx.size)
        have i1 : IntKind.i64.wrap (e + 1) = e + 1 := IntWalk.i64_in _ (by omega)
        clear c0 c1 c2 c3 c4 c5 c6 c7 q0 q1 S2 Q2 hbx hb2 HV
        by_cases hy : Y = v
        · have HZ : Aside (E = true) := HT.out e he0 hx ht (by rw [← HY.out]; exact hy)
          clear HT HN HA
          go_wp2_with fail
          go_ret
          rw [HZ.out]
          exact ⟨rfl, hbW.trans (hbx2.mono hbW.size)⟩
        · go_wp2_with fail
          go_roundg f
          case measure => omega
          case rel =>
            refine ⟨e + 1, rfl, by omega, by omega, hbx2, fun e' h1 h2 h3 => ?_⟩
            by_cases h4 : e' = e
            · subst h4
              exact hy (by rw [HY.out]; exact h3.2)
            · exact HA.out e' h1 (by omega) h3
      · have i1 : IntKind.i64.wrap (e + 1) = e + 1 := IntWalk.i64_in _ (by omega)
        have HT2 : Aside (¬ t ≤ 20000) := ht
        go_wp2_with fail
        go_roundg f
        case measure => omega
        case rel => exact ⟨e + 1, rfl, by omega, by omega, hbx, fun e' h1 h2 h3 => by have h4 := HT2.out; have h5 := h3.1; omega⟩
theorem can_eq (c n s r g bg t v : Int) : canB c n s r g bg t v = (wi t 0 40000 && (decide (t - bg ≤ 20000) && nearB (sayV c r g (t - bg)) n s v)) := by
  unfold canB nearB
  have : decide (t ≤ bg + 20000) = decide (t - bg ≤ 20000) := by
    by_cases h : t ≤ bg + 20000
    · rw [decide_eq_true h, decide_eq_true (by omega)]
    · rw [decide_eq_false h, decide_eq_false (by omega)]
  rw [this]

set_option maxRecDepth 100000 in
set_option maxHeartbeats 8000000 in
theorem rpossible_ok (c p d n s l m k r g bg : Int) (hc : c = 1 ∨ c = 2) (hb : sensB p d n s l m k = true) (hk : kickB r g = true) (hbg : wi bg 0 20000 = true) (a : Option Addr) (len cap : Nat) (T : Nat → Nat → Int) (hl : len ≤ 200) (w : World) (h : IsRows 3 w a len cap T) :
    Calls Try.prog 27 #[.agg (sv c p d n s l m k), .agg #[.int .i64 r, .int .i64 g], .int .i64 bg, .slice a len cap] w fun e' w' => e' = .returned (.bool (posF c p n s l r g bg T len 0 (-1))) ∧ Below w.heap.size w w' := by
  have hll : (len : Int) ≤ 200 := by omega
  obtain ⟨E, hE⟩ : ∃ E, posF c p n s l r g bg T len 0 (-1) = E := ⟨_, rfl⟩
  have HE : Aside (posF c p n s l r g bg T len 0 (-1) = E) := hE
  rw [hE]
  clear hE
  go_enter Try.func27, Try.ntmps27
  go_wp2_with (first
    | (go_at_call 61; refine (rsensor_ok1 _ _ _ _ _ _ _ _ hc hb _).mono ?_; rintro e w' ⟨rfl, rfl⟩)
    | (go_at_call 62; refine (rkick_ok _ _ hk _).mono ?_; rintro e w' ⟨rfl, rfl⟩)
    | (go_at_call 63; refine (between_any bg 0 20000 _).mono ?_; rw [hbg]; rintro e w' ⟨rfl, rfl⟩))
  obtain ⟨W1, hW1⟩ : ∃ W, W = (((w.alloc (.cells (sv c p d n s l m k) 32)).alloc (.cells #[.int .i64 r, .int .i64 g] 29)).alloc (.cells (sv c p d n s l m k) 32)).alloc (.cells #[.int .i64 r, .int .i64 g] 29) := ⟨_, rfl⟩
  have S1 : SC W1 w.heap.size c p d n s l m k := by rw [hW1]; exact ⟨by simp [go_sem, World.cell?_alloc_past], by simp [go_sem, World.cell?_alloc_past], by simp [go_sem, World.cell?_alloc_past], by simp [go_sem, World.cell?_alloc_past], by simp [go_sem, World.cell?_alloc_past], by simp [go_sem, World.cell?_alloc_past], by simp [go_sem, World.cell?_alloc_past], by simp [go_sem, World.cell?_alloc_past], fun j => by simp [go_sem]⟩
  have Q1 : KC W1 (w.heap.size + 1) r g := by rw [hW1]; exact ⟨by simp [go_sem, World.cell?_alloc_past], by simp [go_sem, World.cell?_alloc_past]⟩
  have hbW : Below w.heap.size w W1 := by rw [hW1]; go_grown
  have hR : IsRows 3 W1 a len cap T := h.kept hbW
  rw [← hW1]
  clear hW1 h
  have HR : Aside (IsRows 3 W1 a len cap T) := hR
  clear hR
  obtain ⟨⟨p0, p1⟩, -, ⟨n0, n1⟩, ⟨s0, s1⟩, ⟨l0, l1⟩, -, -, -, -⟩ := fit_of (c := c) hb hk
  have hbg' : 0 ≤ bg ∧ bg ≤ 20000 := by simpa [wi] using hbg
  obtain ⟨g0, g1⟩ := hbg'
  go_loopg [9] len (fun f vi wr => ∃ (i : Nat) (prev : Int), i + f = len ∧ vi = .int .i64 i ∧ Below W1.heap.size W1 wr ∧ ((i = 0 ∧ prev = -1) ∨ (0 < i ∧ prev = T (i - 1) 1 / p ∧ 0 ≤ T (i - 1) 1 ∧ T (i - 1) 1 ≤ 40000)) ∧ (i = 0 ∨ (0 ≤ T 0 1 ∧ T 0 1 ≤ 40000)) ∧ Aside (posF c p n s l r g bg T f i prev = E))
  case atStart => exact ⟨0, -1, by omega, rfl, Below.refl _ _, .inl ⟨rfl, rfl⟩, .inl rfl, HE.out⟩
  case round =>
    obtain ⟨i, prev, hi, rfl, hbx, hpr0, ht0, HF⟩ := hrel
    have hsz := hbx.size
    cases gk with
    | zero =>
      have hil : ¬ (i : Int) < (len : Int) := by omega
      have HZ : Aside (true = E) := HF
      clear HF hpr0
      go_wp2_with fail
      go_ret
      rw [← HZ.out]
      exact ⟨rfl, hbW.trans (hbx.mono hbW.size)⟩
    | succ f =>
      have hil : (i : Int) < (len : Int) := by omega
      have hl0 : (0 : Int) < (len : Int) := by omega
      have hl1 : 0 < len := by omega
      have hl2 : ¬ len = 0 := by omega
      obtain ⟨b, off, rfl, hlt, hc0⟩ := HR.out.2.1 (by omega)
      have c0 : wr.cell? ⟨b, off + i * 3, none⟩ = some (.int .i64 (T i 0)) := (hbx.cell (p := ⟨_, _, _⟩) hlt).trans (hc0 i 0 (by omega) (by omega))
      have c1 : wr.cell? ⟨b, off + i * 3 + 1, none⟩ = some (.int .i64 (T i 1)) := (hbx.cell (p := ⟨_, _, _⟩) hlt).trans (hc0 i 1 (by omega) (by omega))
      have c2 : wr.cell? ⟨b, off + i * 3 + 2, none⟩ = some (.int .i64 (T i 2)) := (hbx.cell (p := ⟨_, _, _⟩) hlt).trans (hc0 i 2 (by omega) (by omega))
      have Y1 : YC wr b off (T 0 0) (T 0 1) := ⟨(hbx.cell (p := ⟨_, _, _⟩) hlt).trans (by simpa using hc0 0 0 (by omega) (by omega)), (hbx.cell (p := ⟨_, _, _⟩) hlt).trans (by simpa using hc0 0 1 (by omega) (by omega))⟩
      have HP : Aside ((i = 0 ∧ prev = -1) ∨ (0 < i ∧ prev = T (i - 1) 1 / p ∧ 0 ≤ T (i - 1) 1 ∧ T (i - 1) 1 ≤ 40000)) := hpr0
      have HPC : Aside (0 < i → wr.cell? ⟨b, off + (i - 1) * 3 + 1, none⟩ = some (.int .i64 (T (i - 1) 1))) := fun h0 => (hbx.cell (p := ⟨_, _, _⟩) hlt).trans (hc0 (i - 1) 1 (by omega) (by omega))
      have prb : -1 ≤ prev ∧ prev ≤ 40000 := by
        rcases hpr0 with ⟨-, h0⟩ | ⟨-, h0, h1, h2⟩
        · omega
        · have h3 := Int.ediv_nonneg h1 (show 0 ≤ p by omega)
          have h4 := Int.ediv_le_self p h1
          omega
      obtain ⟨pr0, pr1⟩ := prb
      have S2 := S1.below hbx
      have Q2 := Q1.below hbx
      have hfirst : i = 0 → T 0 1 = T i 1 := fun e => by rw [e]
      have HF2 : Aside ((okS c p n s l r g bg T i prev && posF c p n s l r g bg T f (i + 1) (T i 1 / p)) = E) := HF
      unfold okS at HF2
      rw [can_eq] at HF2
      clear HF hc0 hpr0
      obtain ⟨z0, hz0⟩ : ∃ z, z = T i 0 := ⟨_, rfl⟩
      obtain ⟨z1, hz1⟩ : ∃ z, z = T i 1 := ⟨_, rfl⟩
      obtain ⟨z2, hz2⟩ : ∃ z, z = T i 2 := ⟨_, rfl⟩
      obtain ⟨y0, hy0⟩ : ∃ z, z = T 0 0 := ⟨_, rfl⟩
      obtain ⟨y1, hy1⟩ : ∃ z, z = T 0 1 := ⟨_, rfl⟩
      rw [← hz0, ← hz1, ← hz2, ← hy0, ← hy1] at HF2
      rw [← hz0] at c0
      rw [← hz1] at c1 hfirst
      rw [← hz2] at c2
      rw [← hy1] at hfirst ht0
      rw [← hy0, ← hy1] at Y1
      have hmeas := measured_any c p d n s l m k r g (z1 - bg) z2 hc hb hk
      obtain ⟨mb, hmb⟩ : ∃ z, z = (decide (z1 - bg ≤ 20000) && nearB (sayV c r g (z1 - bg)) n s z2) := ⟨_, rfl⟩
      rw [← hmb] at HF2 hmeas
      have HM : Aside (∀ w : World, Calls Try.prog 64 #[.agg (sv c p d n s l m k), .agg #[.int .i64 r, .int .i64 g], .int .i64 (z1 - bg), .int .i64 z2] w fun e' w' => e' = .returned (.bool mb) ∧ Below w.heap.size w w') := hmeas
      have hbet := between_any z1 0 40000
      obtain ⟨tb, htb⟩ : ∃ z, z = wi z1 0 40000 := ⟨_, rfl⟩
      rw [← htb] at HF2 hbet
      have HB : Aside (∀ w : World, Calls Try.prog 63 #[.int .i64 z1, .int .i64 0, .int .i64 40000] w fun e w' => e = .returned (.bool tb) ∧ w = w') := hbet
      have hz1b : tb = true → 0 ≤ z1 ∧ z1 ≤ 40000 := by
        intro e
        rw [e] at htb
        simpa [wi] using htb.symm
      have HT0 : Aside (T i 0 = z0 ∧ T i 1 = z1 ∧ T 0 0 = y0 ∧ T 0 1 = y1) := ⟨hz0.symm, hz1.symm, hy0.symm, hy1.symm⟩
      clear hmeas hmb hbet htb hz0 hz1 hz2 hy0 hy1
      go_upto_region 7 with fail
      obtain ⟨W2, hW2⟩ : ∃ W, W = wr.alloc (.cells #[.int .i64 z0, .int .i64 z1, .int .i64 z2] 49) := ⟨_, rfl⟩
      obtain ⟨xb, hxb⟩ : ∃ z, z = wr.heap.size := ⟨_, rfl⟩
      have kr : Below wr.heap.size wr W2 := by rw [hW2]; go_grown
      have X2' : XC W2 xb z0 z1 z2 := by rw [hW2, hxb]; exact ⟨by simp [go_sem], by simp [go_sem], by simp [go_sem]⟩
      have S2' := S2.below kr
      have Q2' := Q2.below kr
      have Y2' := Y1.below kr
      have B2' : Below W1.heap.size W1 W2 := hbx.trans (kr.mono (by omega))
      have HPC2 : Aside (0 < i → W2.cell? ⟨b, off + (i - 1) * 3 + 1, none⟩ = some (.int .i64 (T (i - 1) 1))) := fun h0 => (kr.cell (p := ⟨_, _, _⟩) (by have := hlt; simp; omega)).trans (HPC.out h0)
      rw [← hW2, ← hxb]
      clear hW2 hxb kr c0 c1 c2 Y1 hbx S2 Q2 HPC
      cases tb
      · have HZ : Aside (false = E) := by have := HF2.out; simp at this; exact this.symm
        clear HF2 hz1b HM
        refine wp_region_quietC (fun w' => Below W2.heap.size W2 w') (by kernel_rfl) (by kernel_rfl) (Below.refl _ _).drew ?_
        repeat (first
          | go_big_quiet_skip
          | (go_big_quiet_want; go_big_quiet_op; go_big_quiet_on)
          | (go_big_quiet_want; apply Exists.intro; refine ⟨fun w' hC => ?_, ?_⟩; (have S9 := S2'.below hC; have Q9 := Q2'.below hC; have X9 := X2'.below hC; have Y9 := Y2'.below hC; obtain ⟨s0', s1', s2', s3', s4', s5', s6', s7', -⟩ := S9; obtain ⟨q0', q1'⟩ := Q9; obtain ⟨x0', x1', x2'⟩ := X9; obtain ⟨y0', y1'⟩ := Y9; go_simp; first | rfl | exact ⟨rfl, hC⟩ | exact (HB.out _).mono fun e w'' ⟨he, hb'⟩ => ⟨he, by rw [← hb']; exact hC⟩); (try simp only [Act.put, List.setIfInBounds_toArray, List.set_cons_zero, List.set_cons_succ]); go_big_quiet_on))
        refine wpQuiet_nil ?_
        intro w3 hC3
        have B3 := B2'.trans (hC3.mono B2'.size)
        go_wp2_with fail
        go_ret
        rw [← HZ.out]
        exact ⟨rfl, hbW.trans (B3.mono hbW.size)⟩
      · obtain ⟨z10, z11⟩ := hz1b rfl
        clear hz1b
        have y10 : 0 ≤ y1 ∧ y1 ≤ 40000 := by
          rcases ht0 with h0 | h0
          · rw [hfirst h0]; exact ⟨z10, z11⟩
          · exact h0
        obtain ⟨ya, yb⟩ := y10
        clear ht0 hfirst
        have hp0 : ¬ p = 0 := by omega
        have m1 : z1.tmod p = z1 % p := Int.tmod_eq_emod_of_nonneg z10
        have m2 : y1.tmod p = y1 % p := Int.tmod_eq_emod_of_nonneg ya
        by_cases hA : z0 = y0
        · subst hA
          by_cases hm : z1 % p = y1 % p
          · have HF3 : Aside ((mb && wi (z1 / p - prev) 1 (l + 1) && posF c p n s l r g bg T f (i + 1) (z1 / p)) = E) := by
              have := HF2.out
              simpa [hm, Aside] using this
            clear HF2
            refine wp_region_quietC (fun w' => Below W2.heap.size W2 w') (by kernel_rfl) (by kernel_rfl) (Below.refl _ _).drew ?_
            repeat (first
              | go_big_quiet_skip
              | (go_big_quiet_want; go_big_quiet_op; go_big_quiet_on)
              | (go_big_quiet_want; apply Exists.intro; refine ⟨fun w' hC => ?_, ?_⟩; (have S9 := S2'.below hC; have Q9 := Q2'.below hC; have X9 := X2'.below hC; have Y9 := Y2'.below hC; obtain ⟨s0', s1', s2', s3', s4', s5', s6', s7', -⟩ := S9; obtain ⟨q0', q1'⟩ := Q9; obtain ⟨x0', x1', x2'⟩ := X9; obtain ⟨y0', y1'⟩ := Y9; go_simp; first | rfl | exact ⟨rfl, hC⟩ | exact (HB.out _).mono fun e w'' ⟨he, hb'⟩ => ⟨he, by rw [← hb']; exact hC⟩); (try simp only [Act.put, List.setIfInBounds_toArray, List.set_cons_zero, List.set_cons_succ]); go_big_quiet_on))
            refine wpQuiet_nil ?_
            intro w3 hC3
            have B3 := B2'.trans (hC3.mono B2'.size)
            have S3' := S2'.below hC3
            have Q3' := Q2'.below hC3
            have X3' := X2'.below hC3
            have Y3' := Y2'.below hC3
            have hbl : b < W2.heap.size := lt_of_cell Y2'.c0
            have HPC3 : Aside (0 < i → w3.cell? ⟨b, off + (i - 1) * 3 + 1, none⟩ = some (.int .i64 (T (i - 1) 1))) := fun h0 => (hC3.cell (p := ⟨_, _, _⟩) (by exact hbl)).trans (HPC2.out h0)
            clear S2' Q2' X2' Y2' hC3 B2' HB m1 m2 HPC2
            have hbl3 : b < w3.heap.size := lt_of_cell Y3'.c0
            go_upto_region 9 with fail
            repeat ((fail_if_success guard_target =~ Code.wp _ (Code.seq (Code.seq _ _) _) _ _ _); go_step)
            apply wp_seq_k; intro _ _
            go_cut [11] (fun s11 wx => s11 = .int .i64 prev ∧ Below w3.heap.size w3 wx)
            · rcases HP.out with ⟨h0, h1⟩ | ⟨h0, h1, h2, h3⟩
              · have hi0 : ¬ (0 : Int) < (i : Int) := by omega
                have H1 : Aside (prev = -1) := h1
                clear h0 h1
                go_wp2_with fail
                go_meet
                exact ⟨by rw [H1.out], Below.refl _ _⟩
              · have hi0 : (0 : Int) < (i : Int) := by omega
                have hpc0 := HPC3.out h0
                obtain ⟨j, hj⟩ : ∃ j, j = i - 1 := ⟨_, rfl⟩
                rw [← hj] at hpc0 h1 h2 h3
                have hpc : w3.cell? ⟨b, off + j * 3 + 1, none⟩ = some (.int .i64 (T j 1)) := hpc0
                have jj : (i : Int) - 1 = (j : Int) := by omega
                have j1 : IntKind.i64.wrap (j : Int) = (j : Int) := IntWalk.i64_in _ (by omega)
                have j4 : (j : Int) < (len : Int) := by omega
                have j4' : j < len := by omega
                have j5 : IntKind.i64.wrap (T j 1 / p) = T j 1 / p := IntWalk.i64_in _ (by have := Int.ediv_nonneg h2 (show 0 ≤ p by omega); have := Int.ediv_le_self p h2; omega)
                have j6 : (T j 1).tdiv p = T j 1 / p := Int.tdiv_eq_ediv_of_nonneg h2
                have H1 : Aside (prev = T j 1 / p) := h1
                clear hpc0 hj
                clear h0 h1 h2 h3
                go_upto_region 11 with fail
                refine wp_region_quietC (fun w' => Below w3.heap.size w3 w') (by kernel_rfl) (by kernel_rfl) (Below.refl _ _).drew ?_
                repeat (first
                  | go_big_quiet_skip
                  | (go_big_quiet_want; go_big_quiet_op; go_big_quiet_on)
                  | (go_big_quiet_want; apply Exists.intro; refine ⟨fun w' hC => ?_, ?_⟩; (have S9 := S3'.below hC; have Q9 := Q3'.below hC; have X9 := X3'.below hC; have Y9 := Y3'.below hC; have P9 := (hC.cell (p := ⟨_, _, _⟩) (by exact hbl3)).trans hpc; obtain ⟨s0', s1', s2', s3', s4', s5', s6', s7', -⟩ := S9; obtain ⟨q0', q1'⟩ := Q9; obtain ⟨x0', x1', x2'⟩ := X9; obtain ⟨y0', y1'⟩ := Y9; go_simp; first | rfl | exact ⟨rfl, hC⟩); (try simp only [Act.put, List.setIfInBounds_toArray, List.set_cons_zero, List.set_cons_succ]); go_big_quiet_on))
                refine wpQuiet_nil ?_
                intro w4 hC4
                go_wp2_with fail
                go_meet
                exact ⟨by rw [H1.out], hC4⟩
            obtain ⟨rfl, k4⟩ := hcut
            obtain ⟨w4, rfl⟩ : ∃ W : World, W = wc := ⟨_, rfl⟩
            have S4 := S3'.below k4
            have Q4 := Q3'.below k4
            have X4 := X3'.below k4
            have B4 := B3.trans (k4.mono B3.size)
            clear S3' Q3' X3' Y3' B3 k4 HPC3 hbl hbl3 HP
            have d1 : z1.tdiv p = z1 / p := Int.tdiv_eq_ediv_of_nonneg z10
            obtain ⟨q, hq⟩ : ∃ z, z = z1 / p := ⟨_, rfl⟩
            have HQ : Aside (q = T i 1 / p) := by show _ = _; rw [hq, HT0.out.2.1]
            have qq0 : 0 ≤ q := by rw [hq]; exact Int.ediv_nonneg z10 (by omega)
            have qq1 : q ≤ 40000 := by rw [hq]; exact Int.le_trans (Int.ediv_le_self _ z10) z11
            rw [← hq] at d1 HF3
            clear hq hm
            have i1 : IntKind.i64.wrap q = q := IntWalk.i64_in _ (by omega)
            have i2 : IntKind.i64.wrap (q - prev) = q - prev := IntWalk.i64_in _ (by omega)
            have i3 : IntKind.i64.wrap (l + 1) = l + 1 := IntWalk.i64_in _ (by omega)
            have i4 : IntKind.i64.wrap (z1 - bg) = z1 - bg := IntWalk.i64_in _ (by omega)
            have x1' := X4.c1
            have x2' := X4.c2
            have s0' := S4.c0; have s1' := S4.c1; have s2' := S4.c2; have s3' := S4.c3; have s4' := S4.c4; have s5' := S4.c5; have s6' := S4.c6; have s7' := S4.c7
            have q0' := Q4.c0; have q1' := Q4.c1
            by_cases hg1 : q - prev < 1
            · have HZ : Aside (false = E) := by
                have := HF3.out
                rw [show wi (q - prev) 1 (l + 1) = false by simp [wi]; omega] at this
                simpa [Aside] using this
              clear HF3
              go_wp2_with fail
              go_ret
              rw [← HZ.out]
              exact ⟨rfl, hbW.trans (B4.mono hbW.size)⟩
            · by_cases hg2 : l + 1 < q - prev
              · have HZ : Aside (false = E) := by
                  have := HF3.out
                  rw [show wi (q - prev) 1 (l + 1) = false by simp [wi]; omega] at this
                  simpa [Aside] using this
                clear HF3
                go_wp2_with fail
                go_ret
                rw [← HZ.out]
                exact ⟨rfl, hbW.trans (B4.mono hbW.size)⟩
              · have HF4 : Aside ((mb && posF c p n s l r g bg T f (i + 1) q) = E) := by
                  have := HF3.out
                  rw [show wi (q - prev) 1 (l + 1) = true by simp [wi]; omega] at this
                  simpa [Aside] using this
                clear HF3
                go_wp2_with fail
                refine (HM.out _).mono ?_
                rintro e w5 ⟨rfl, k5⟩
                have B5 := B4.trans (k5.mono B4.size)
                clear S4 Q4 X4 k5 B4 s0' s1' s2' s3' s4' s5' s6' s7' q0' q1' x1' x2' HM
                cases mb
                · have HZ : Aside (false = E) := by have := HF4.out; simp at this; exact this.symm
                  clear HF4
                  go_wp2_with fail
                  go_ret
                  rw [← HZ.out]
                  exact ⟨rfl, hbW.trans (B5.mono hbW.size)⟩
                · have HF5 : Aside (posF c p n s l r g bg T f (i + 1) q = E) := by
                    have := HF4.out
                    simpa [Aside] using this
                  clear HF4
                  go_wp2_with fail
                  go_roundg f
                  case measure => omega
                  case rel =>
                    refine ⟨i + 1, q, by omega, by first | rfl | go_num, B5, .inr ⟨by omega, HQ.out, ?_, ?_⟩, .inr ?_, HF5⟩
                    · have h := HT0.out.2.1
                      simp only [Nat.add_sub_cancel]
                      omega
                    · have h := HT0.out.2.1
                      simp only [Nat.add_sub_cancel]
                      omega
                    · rw [HT0.out.2.2.2]
                      exact ⟨ya, yb⟩
          · have HZ : Aside (false = E) := by have := HF2.out; simp [hm] at this; exact this.symm
            have hm' : (z1 % p != y1 % p) = true := by rw [bne_iff_ne]; exact hm
            have hm2 : (z1 % p == y1 % p) = false := by rw [beq_eq_false_iff_ne]; exact hm
            clear HF2 HM
            refine wp_region_quietC (fun w' => Below W2.heap.size W2 w') (by kernel_rfl) (by kernel_rfl) (Below.refl _ _).drew ?_
            repeat (first
              | go_big_quiet_skip
              | (go_big_quiet_want; go_big_quiet_op; go_big_quiet_on)
              | (go_big_quiet_want; apply Exists.intro; refine ⟨fun w' hC => ?_, ?_⟩; (have S9 := S2'.below hC; have Q9 := Q2'.below hC; have X9 := X2'.below hC; have Y9 := Y2'.below hC; obtain ⟨s0', s1', s2', s3', s4', s5', s6', s7', -⟩ := S9; obtain ⟨q0', q1'⟩ := Q9; obtain ⟨x0', x1', x2'⟩ := X9; obtain ⟨y0', y1'⟩ := Y9; go_simp; first | rfl | exact ⟨rfl, hC⟩ | exact (HB.out _).mono fun e w'' ⟨he, hb'⟩ => ⟨he, by rw [← hb']; exact hC⟩); (try simp only [Act.put, List.setIfInBounds_toArray, List.set_cons_zero, List.set_cons_succ]); go_big_quiet_on))
            refine wpQuiet_nil ?_
            intro w3 hC3
            have B3 := B2'.trans (hC3.mono B2'.size)
            go_wp2_with fail
            go_ret
            rw [← HZ.out]
            exact ⟨rfl, hbW.trans (B3.mono hbW.size)⟩
        · have hA' : (z0 != y0) = true := by rw [bne_iff_ne]; exact hA
          have HZ : Aside (false = E) := by have := HF2.out; simp [hA] at this; exact this.symm
          have hA2 : (z0 == y0) = false := by rw [beq_eq_false_iff_ne]; exact hA
          clear HF2 HM
          refine wp_region_quietC (fun w' => Below W2.heap.size W2 w') (by kernel_rfl) (by kernel_rfl) (Below.refl _ _).drew ?_
          repeat (first
            | go_big_quiet_skip
            | (go_big_quiet_want; go_big_quiet_op; go_big_quiet_on)
            | (go_big_quiet_want; apply Exists.intro; refine ⟨fun w' hC => ?_, ?_⟩; (have S9 := S2'.below hC; have Q9 := Q2'.below hC; have X9 := X2'.below hC; have Y9 := Y2'.below hC; obtain ⟨s0', s1', s2', s3', s4', s5', s6', s7', -⟩ := S9; obtain ⟨q0', q1'⟩ := Q9; obtain ⟨x0', x1', x2'⟩ := X9; obtain ⟨y0', y1'⟩ := Y9; go_simp; first | rfl | exact ⟨rfl, hC⟩ | exact (HB.out _).mono fun e w'' ⟨he, hb'⟩ => ⟨he, by rw [← hb']; exact hC⟩); (try simp only [Act.put, List.setIfInBounds_toArray, List.set_cons_zero, List.set_cons_succ]); go_big_quiet_on))
          refine wpQuiet_nil ?_
          intro w3 hC3
          have B3 := B2'.trans (hC3.mono B2'.size)
          go_wp2_with fail
          go_ret
          rw [← HZ.out]
          exact ⟨rfl, hbW.trans (B3.mono hbW.size)⟩
end Go.Proofs.Ytngcfohmlppghaa
