/- Which samples are possible: the contracts of the program's and of the reference's Possible. -/
import Derived.Test.YtngcfohmlppghaaKu
import Derived.Test.YtngcfohmlppghaaKy
import Derived.BigQuiet
import Derived.Test.YtngcfohmlppghaaSl
import Derived.Deep.RegionHeld3
import Derived.Deep.DeepCutAuto
import Derived.Deep.LoopGhost
namespace Go.Proofs.Ytngcfohmlppghaa
open Go.RowKit

/-- A sample may be among the possible ones, but for the others. -/
def canB (c n s r g bg t v : Int) : Bool := wi t 0 40000 && (decide (t ≤ bg + 20000) && (wi v (sayV c r g (t - bg) - n * s) (sayV c r g (t - bg) + n * s) && ((v - sayV c r g (t - bg)).tmod s == 0)))

set_option maxRecDepth 100000 in
set_option maxHeartbeats 2000000 in
theorem canBe_no (c p d n s l m k r g bg q t v : Int) (b0 : 0 ≤ bg) (b1 : bg ≤ 20000) (h : wi t 0 40000 = false ∨ ¬ t ≤ bg + 20000) (w : World) :
    Calls Try.prog 60 #[.agg (sv c p d n s l m k), .agg #[.int .i64 r, .int .i64 g], .int .i64 bg, .agg #[.int .i64 q, .int .i64 t, .int .i64 v]] w fun e' w' => e' = .returned (.bool false) ∧ Below w.heap.size w w' := by
  cases hb : wi t 0 40000
  · go_enter Try.func60, Try.ntmps60
    go_wp2_with (go_at_call 59; refine (within_any t 0 40000 _).mono ?_; rw [hb]; rintro e w' ⟨rfl, rfl⟩)
    go_ret
    exact ⟨rfl, by go_grown⟩
  · have h2 : ¬ t ≤ bg + 20000 := by
      rcases h with h | h
      · rw [hb] at h; cases h
      · exact h
    have h3 : bg + 20000 < t := by omega
    clear h h2
    go_enter Try.func60, Try.ntmps60
    go_wp2_with (go_at_call 59; refine (within_any t 0 40000 _).mono ?_; rw [hb]; rintro e w' ⟨rfl, rfl⟩)
    go_ret
    exact ⟨rfl, by go_grown⟩
set_option maxRecDepth 100000 in
set_option maxHeartbeats 2000000 in
theorem canBe_ok (c p d n s l m k r g bg q t v : Int) (_hc : c = 1 ∨ c = 2) (hb : sensB p d n s l m k = true) (hk : kickB r g = true) (b0 : 0 ≤ bg) (b1 : bg ≤ 20000) (v0 : -9223372036854775808 ≤ v) (v1 : v ≤ 9223372036854775807)
    (h1 : wi t 0 40000 = true) (h2 : t ≤ bg + 20000) (w : World) :
    Calls Try.prog 60 #[.agg (sv c p d n s l m k), .agg #[.int .i64 r, .int .i64 g], .int .i64 bg, .agg #[.int .i64 q, .int .i64 t, .int .i64 v]] w fun e' w' => e' = .returned (.bool (wi v (sayV c r g (t - bg) - n * s) (sayV c r g (t - bg) + n * s) && ((v - sayV c r g (t - bg)).tmod s == 0))) ∧ Below w.heap.size w w' := by
  obtain ⟨⟨p0, p1⟩, ⟨d0, d1⟩, ⟨n0, n1⟩, ⟨s0, s1⟩, -, -, -, hr, hg⟩ := fit_of (c := c) hb hk
  have ht : 0 ≤ t ∧ t ≤ 40000 := by simpa [wi] using h1
  obtain ⟨y0, y1⟩ := say_bd (c := c) hr hg (show t - bg ≤ 20000 by omega)
  obtain ⟨m0, m1⟩ := mul_bd n0 n1 (show (0 : Int) ≤ s by omega) s1
  have hss := says_any c r g (t - bg) hr hg (by omega)
  obtain ⟨Y, hY⟩ : ∃ z, z = sayV c r g (t - bg) := ⟨_, rfl⟩
  rw [← hY] at y0 y1 hss ⊢
  clear hY
  have HS : Aside (∀ w : World, Calls Try.prog (chF c) #[.agg #[.int .i64 r, .int .i64 g], .int .i64 (t - bg)] w fun e w' => e = .returned (.int .i64 Y) ∧ w.alloc (.cells #[.int .i64 r, .int .i64 g] 115) = w') := hss
  clear hss
  have i1 : IntKind.i64.wrap (t - bg) = t - bg := IntWalk.i64_in _ (by omega)
  have i2 : IntKind.i64.wrap (n * s) = n * s := IntWalk.i64_in _ (by omega)
  have hcf := chF_enter c
  obtain ⟨M, hM⟩ : ∃ z, z = n * s := ⟨_, rfl⟩
  go_enter Try.func60, Try.ntmps60
  go_wp2_with (go_at_call 59; refine (within_any t 0 40000 _).mono ?_; rw [h1]; rintro e w' ⟨rfl, rfl⟩)
  go_region_held3 (fun w' => w'.cell? ⟨w.heap.size, 0, none⟩ = some (.int .i64 c) ∧ w'.cell? ⟨w.heap.size, 1, none⟩ = some (.int .i64 p) ∧ w'.cell? ⟨w.heap.size, 2, none⟩ = some (.int .i64 d) ∧ w'.cell? ⟨w.heap.size, 3, none⟩ = some (.int .i64 n) ∧ w'.cell? ⟨w.heap.size, 4, none⟩ = some (.int .i64 s) ∧ w'.cell? ⟨w.heap.size, 5, none⟩ = some (.int .i64 l) ∧ w'.cell? ⟨w.heap.size, 6, none⟩ = some (.int .i64 m) ∧ w'.cell? ⟨w.heap.size, 7, none⟩ = some (.int .i64 k) ∧ w'.cell? ⟨w.heap.size + 1, 0, none⟩ = some (.int .i64 r) ∧ w'.cell? ⟨w.heap.size + 1, 1, none⟩ = some (.int .i64 g) ∧ w'.cell? ⟨w.heap.size + 2, 1, none⟩ = some (.int .i64 t)) (simp [go_sem, World.cell?_alloc_past])
    (first
      | (go_at_call 78; refine (channel_ex c p d n s l m k r g _).mono ?_; rintro e w' ⟨rfl, rfl⟩)
      | (refine (HS.out _).mono ?_; rintro e w' ⟨rfl, rfl⟩))
  clear i1 hcf HS
  have i3 : IntKind.i64.wrap (Y - n * s) = Y - n * s := IntWalk.i64_in _ (by omega)
  have i4 : IntKind.i64.wrap (Y + n * s) = Y + n * s := IntWalk.i64_in _ (by omega)
  cases hw : wi v (Y - n * s) (Y + n * s)
  · go_wp2_with (go_at_call 59; refine (within_any v (Y - n * s) (Y + n * s) _).mono ?_; rw [hw]; rintro e w' ⟨rfl, rfl⟩)
    go_ret
    exact ⟨by simp [hw], by go_grown⟩
  · have hv : Y - n * s ≤ v ∧ v ≤ Y + n * s := by simpa [wi] using hw
    have i5 : IntKind.i64.wrap (v - Y) = v - Y := IntWalk.i64_in _ (by omega)
    have hs0 : ¬ s = 0 := by omega
    go_wp2_with (go_at_call 59; refine (within_any v (Y - n * s) (Y + n * s) _).mono ?_; rw [hw]; rintro e w' ⟨rfl, rfl⟩)
    go_ret
    exact ⟨by simp [hw], by go_grown⟩
theorem canBe_any (c p d n s l m k r g bg q t v : Int) (hc : c = 1 ∨ c = 2) (hb : sensB p d n s l m k = true) (hk : kickB r g = true) (b0 : 0 ≤ bg) (b1 : bg ≤ 20000) (v0 : -9223372036854775808 ≤ v) (v1 : v ≤ 9223372036854775807) (w : World) :
    Calls Try.prog 60 #[.agg (sv c p d n s l m k), .agg #[.int .i64 r, .int .i64 g], .int .i64 bg, .agg #[.int .i64 q, .int .i64 t, .int .i64 v]] w fun e' w' => e' = .returned (.bool (canB c n s r g bg t v)) ∧ Below w.heap.size w w' := by
  unfold canB
  by_cases h1 : wi t 0 40000 = true
  · by_cases h2 : t ≤ bg + 20000
    · have := canBe_ok c p d n s l m k r g bg q t v hc hb hk b0 b1 v0 v1 h1 h2 w
      simpa [h1, h2] using this
    · have := canBe_no c p d n s l m k r g bg q t v b0 b1 (.inr h2) w
      simpa [h2] using this
  · have h1' : wi t 0 40000 = false := by simpa using h1
    have := canBe_no c p d n s l m k r g bg q t v b0 b1 (.inl h1') w
    simpa [h1'] using this

/-- A region whose operations and callees keep a class of worlds, walked in the order of the text. -/
theorem wp_region_quietC {P : Program} {id : Nat} {Q : Exit → Act → World → Prop} {a : Act} {w : World} {l : List Oper} (C : World → Prop) (hm : P.follows .mixedOrders = true) (hB : Region.lexB .any l.toArray = true) (hC : C w.drew)
    (h : wpQuiet P l.toArray C (fun a' => ∀ w', C w' → Q .normal a' w') l a) : (Code.region id l.toArray true).wp P Q a w :=
  wp_region_quiet (C := C) hm hB hC (by simpa using h)
/-- A sample lies in a block of its own. -/
structure XC (w : World) (b : Nat) (z0 z1 z2 : Int) : Prop where
  c0 : w.cell? ⟨b, 0, none⟩ = some (.int .i64 z0)
  c1 : w.cell? ⟨b, 1, none⟩ = some (.int .i64 z1)
  c2 : w.cell? ⟨b, 2, none⟩ = some (.int .i64 z2)
theorem XC.below {w w' : World} {b : Nat} {z0 z1 z2 : Int} (h : XC w b z0 z1 z2) (kk : Below w.heap.size w w') : XC w' b z0 z1 z2 :=
  have hlt : b < w.heap.size := lt_of_cell h.c0
  ⟨(kk.cell (p := ⟨_, _, _⟩) hlt).trans h.c0, (kk.cell (p := ⟨_, _, _⟩) hlt).trans h.c1, (kk.cell (p := ⟨_, _, _⟩) hlt).trans h.c2⟩
theorem XC.drew {w : World} {b : Nat} {z0 z1 z2 : Int} (h : XC w b z0 z1 z2) : XC w.drew b z0 z1 z2 := ⟨h.c0, h.c1, h.c2⟩
/-- The first sample's sensor and tick. -/
structure YC (w : World) (b off : Nat) (y0 y1 : Int) : Prop where
  c0 : w.cell? ⟨b, off, none⟩ = some (.int .i64 y0)
  c1 : w.cell? ⟨b, off + 1, none⟩ = some (.int .i64 y1)
theorem YC.below {w w' : World} {b off : Nat} {y0 y1 : Int} (h : YC w b off y0 y1) (kk : Below w.heap.size w w') : YC w' b off y0 y1 :=
  have hlt : b < w.heap.size := lt_of_cell h.c0
  ⟨(kk.cell (p := ⟨_, _, _⟩) hlt).trans h.c0, (kk.cell (p := ⟨_, _, _⟩) hlt).trans h.c1⟩
theorem YC.drew {w : World} {b off : Nat} {y0 y1 : Int} (h : YC w b off y0 y1) : YC w.drew b off y0 y1 := ⟨h.c0, h.c1⟩
theorem KC.drew {w : World} {b : Nat} {r g : Int} (h : KC w b r g) : KC w.drew b r g := ⟨h.c0, h.c1⟩
theorem IsRows.kept {n : Nat} {w w' : World} {a : Option Addr} {len cap : Nat} {S : Nat → Nat → Int} (h : IsRows n w a len cap S) (hb : Below w.heap.size w w') : IsRows n w' a len cap S := by
  obtain ⟨h0, h1, h2⟩ := h
  refine ⟨h0, fun hl => ?_, h2⟩
  obtain ⟨b, off, ha, hlt, hc⟩ := h1 hl
  exact ⟨b, off, ha, Nat.lt_of_lt_of_le hlt hb.size, fun i j hi hj => (hb.cell (p := ⟨_, _, _⟩) hlt).trans (hc i j hi hj)⟩

/-- A sample fits the one before. -/
def okS (c p n s l r g bg : Int) (T : Nat → Nat → Int) (i : Nat) (prev : Int) : Bool :=
  decide (T i 0 = T 0 0) && (canB c n s r g bg (T i 1) (T i 2) && (decide (T i 1 % p = T 0 1 % p) && wi (T i 1 / p - prev) 1 (l + 1)))
def posF (c p n s l r g bg : Int) (T : Nat → Nat → Int) : Nat → Nat → Int → Bool
  | 0, _, _ => true
  | f + 1, i, prev => okS c p n s l r g bg T i prev && posF c p n s l r g bg T f (i + 1) (T i 1 / p)
/-- What Possible returns. -/
def posE (c p d n s l m k r g bg : Int) (T : Nat → Nat → Int) (len : Nat) : Bool :=
  decide (senE c p d n s l m k = 0) && (kickB r g && (wi bg 0 20000 && (decide (len ≤ 200) && posF c p n s l r g bg T len 0 (-1))))

set_option maxRecDepth 100000 in
set_option maxHeartbeats 8000000 in
theorem possible_ok (c p d n s l m k r g bg : Int) (hc : c = 1 ∨ c = 2) (hb : sensB p d n s l m k = true) (hk : kickB r g = true) (hbg : wi bg 0 20000 = true) (a : Option Addr) (len cap : Nat) (T : Nat → Nat → Int) (hl : len ≤ 200) (w : World) (h : IsRows 3 w a len cap T) (hT : ∀ i j, i < len → j < 3 → IntKind.i64.has (T i j)) :
    Calls Try.prog 26 #[.agg (sv c p d n s l m k), .agg #[.int .i64 r, .int .i64 g], .int .i64 bg, .slice a len cap] w fun e' w' => e' = .returned (.bool (posF c p n s l r g bg T len 0 (-1))) ∧ Below w.heap.size w w' := by
  have hll : (len : Int) ≤ 200 := by omega
  obtain ⟨E, hE⟩ : ∃ E, posF c p n s l r g bg T len 0 (-1) = E := ⟨_, rfl⟩
  have HE : Aside (posF c p n s l r g bg T len 0 (-1) = E) := hE
  rw [hE]
  clear hE
  go_enter Try.func26, Try.ntmps26
  go_wp2_with (first
    | (go_at_call 57; refine (sensor_ok1 _ _ _ _ _ _ _ _ hc hb _).mono ?_; rintro e w' ⟨rfl, rfl⟩)
    | (go_at_call 58; refine (kick_ok _ _ hk _).mono ?_; rintro e w' ⟨rfl, rfl⟩)
    | (go_at_call 59; refine (within_any bg 0 20000 _).mono ?_; rw [hbg]; rintro e w' ⟨rfl, rfl⟩))
  obtain ⟨W1, hW1⟩ : ∃ W, W = (((w.alloc (.cells (sv c p d n s l m k) 32)).alloc (.cells #[.int .i64 r, .int .i64 g] 29)).alloc (.cells (sv c p d n s l m k) 32)).alloc (.cells #[.int .i64 r, .int .i64 g] 29) := ⟨_, rfl⟩
  have S1 : SC W1 w.heap.size c p d n s l m k := by rw [hW1]; exact ⟨by simp [go_sem, World.cell?_alloc_past], by simp [go_sem, World.cell?_alloc_past], by simp [go_sem, World.cell?_alloc_past], by simp [go_sem, World.cell?_alloc_past], by simp [go_sem, World.cell?_alloc_past], by simp [go_sem, World.cell?_alloc_past], by simp [go_sem, World.cell?_alloc_past], by simp [go_sem, World.cell?_alloc_past], fun j => by simp [go_sem]⟩
  have Q1 : KC W1 (w.heap.size + 1) r g := by rw [hW1]; exact ⟨by simp [go_sem, World.cell?_alloc_past], by simp [go_sem, World.cell?_alloc_past]⟩
  have hbW : Below w.heap.size w W1 := by rw [hW1]; go_grown
  have hR : IsRows 3 W1 a len cap T := h.kept hbW
  rw [← hW1]
  clear hW1 h
  have hT' : Aside (∀ i j, i < len → j < 3 → IntKind.i64.has (T i j)) := hT
  have HR : Aside (IsRows 3 W1 a len cap T) := hR
  have hlm := hR.1
  clear hT hR
  obtain ⟨⟨p0, p1⟩, -, ⟨n0, n1⟩, ⟨s0, s1⟩, ⟨l0, l1⟩, -, -, -, -⟩ := fit_of (c := c) hb hk
  have hbg' : 0 ≤ bg ∧ bg ≤ 20000 := by simpa [wi] using hbg
  obtain ⟨g0, g1⟩ := hbg'
  go_loopg [9, 32] len (fun f vp vi wr => ∃ (i : Nat) (prev : Int), i + f = len ∧ vp = .int .i64 prev ∧ vi = .int .i64 i ∧ Below W1.heap.size W1 wr ∧ -1 ≤ prev ∧ prev ≤ 40000 ∧ (i = 0 ∨ (0 ≤ T 0 1 ∧ T 0 1 ≤ 40000)) ∧ Aside (posF c p n s l r g bg T f i prev = E))
  case atStart => exact ⟨0, -1, by omega, rfl, rfl, Below.refl _ _, by omega, by omega, .inl rfl, HE.out⟩
  case round =>
    obtain ⟨i, prev, hi, rfl, rfl, hbx, pr0, pr1, ht0, HF⟩ := hrel
    have hsz := hbx.size
    cases gk with
    | zero =>
      have hil : ¬ (i : Int) < (len : Int) := by omega
      have HZ : Aside (true = E) := HF
      clear HF
      go_wp2_with fail
      go_ret
      rw [← HZ.out]
      exact ⟨rfl, hbW.trans (hbx.mono hbW.size)⟩
    | succ f =>
      have hil : (i : Int) < (len : Int) := by omega
      have hl0 : (0 : Int) < (len : Int) := by omega
      have hl1 : 0 < len := by omega
      have hl2 : ¬ len = 0 := by omega
      obtain ⟨b, off, rfl, hlt, hc0⟩ := HR.out.2.1 (by omega)
      have c0 : wr.cell? ⟨b, off + i * 3, none⟩ = some (.int .i64 (T i 0)) := (hbx.cell (p := ⟨_, _, _⟩) hlt).trans (hc0 i 0 (by omega) (by omega))
      have c1 : wr.cell? ⟨b, off + i * 3 + 1, none⟩ = some (.int .i64 (T i 1)) := (hbx.cell (p := ⟨_, _, _⟩) hlt).trans (hc0 i 1 (by omega) (by omega))
      have c2 : wr.cell? ⟨b, off + i * 3 + 2, none⟩ = some (.int .i64 (T i 2)) := (hbx.cell (p := ⟨_, _, _⟩) hlt).trans (hc0 i 2 (by omega) (by omega))
      have Y1 : YC wr b off (T 0 0) (T 0 1) := ⟨(hbx.cell (p := ⟨_, _, _⟩) hlt).trans (by simpa using hc0 0 0 (by omega) (by omega)), (hbx.cell (p := ⟨_, _, _⟩) hlt).trans (by simpa using hc0 0 1 (by omega) (by omega))⟩
      have S2 := S1.below hbx
      have Q2 := Q1.below hbx
      have hz2 := hT'.out i 2 (by omega) (by omega)
      obtain ⟨v0, v1⟩ := has_bd hz2
      have hfirst : i = 0 → T 0 1 = T i 1 := fun e => by rw [e]
      have HF2 : Aside ((okS c p n s l r g bg T i prev && posF c p n s l r g bg T f (i + 1) (T i 1 / p)) = E) := HF
      unfold okS at HF2
      clear HF hz2 hc0
      obtain ⟨z0, hz0⟩ : ∃ z, z = T i 0 := ⟨_, rfl⟩
      obtain ⟨z1, hz1⟩ : ∃ z, z = T i 1 := ⟨_, rfl⟩
      obtain ⟨z2, hz2⟩ : ∃ z, z = T i 2 := ⟨_, rfl⟩
      obtain ⟨y0, hy0⟩ : ∃ z, z = T 0 0 := ⟨_, rfl⟩
      obtain ⟨y1, hy1⟩ : ∃ z, z = T 0 1 := ⟨_, rfl⟩
      rw [← hz0, ← hz1, ← hz2, ← hy0, ← hy1] at HF2
      rw [← hz0] at c0
      rw [← hz1] at c1 hfirst
      rw [← hz2] at c2 v0 v1
      rw [← hy1] at hfirst ht0
      rw [← hy0, ← hy1] at Y1
      have hcan := canBe_any c p d n s l m k r g bg z0 z1 z2 hc hb hk g0 g1 v0 v1
      obtain ⟨cb, hcb⟩ : ∃ z, z = canB c n s r g bg z1 z2 := ⟨_, rfl⟩
      rw [← hcb] at HF2 hcan
      have HB : Aside (∀ w : World, Calls Try.prog 60 #[.agg (sv c p d n s l m k), .agg #[.int .i64 r, .int .i64 g], .int .i64 bg, .agg #[.int .i64 z0, .int .i64 z1, .int .i64 z2]] w fun e' w' => e' = .returned (.bool cb) ∧ Below w.heap.size w w') := hcan
      have hz1b : cb = true → 0 ≤ z1 ∧ z1 ≤ 40000 := by
        intro e
        rw [e] at hcb
        have := hcb.symm
        simp only [canB, wi, Bool.and_eq_true, decide_eq_true_eq] at this
        exact this.1
      have HT0 : Aside (T i 0 = z0 ∧ T i 1 = z1 ∧ T 0 0 = y0 ∧ T 0 1 = y1) := ⟨hz0.symm, hz1.symm, hy0.symm, hy1.symm⟩
      clear hcan hcb hz0 hz1 hz2 hy0 hy1 v0 v1
      go_upto_region 7 with fail
      obtain ⟨W2, hW2⟩ : ∃ W, W = wr.alloc (.cells #[.int .i64 z0, .int .i64 z1, .int .i64 z2] 49) := ⟨_, rfl⟩
      obtain ⟨xb, hxb⟩ : ∃ z, z = wr.heap.size := ⟨_, rfl⟩
      have kr : Below wr.heap.size wr W2 := by rw [hW2]; go_grown
      have X2 : XC W2.drew xb z0 z1 z2 := by rw [hW2, hxb]; exact ⟨by simp [go_sem], by simp [go_sem], by simp [go_sem]⟩
      have S2 := (S2.below kr).drew
      have Q2 := (Q2.below kr).drew
      have Y2 := (Y1.below kr).drew
      have B2 : Below W1.heap.size W1 W2.drew := (hbx.trans (kr.mono (by omega))).drew
      rw [← hW2, ← hxb]
      clear hW2 hxb kr c0 c1 c2 Y1 hbx
      have KW : Below W2.heap.size W2 W2.drew := (Below.refl _ _).drew
      have S2' : SC W2 w.heap.size c p d n s l m k := ⟨S2.c0, S2.c1, S2.c2, S2.c3, S2.c4, S2.c5, S2.c6, S2.c7, S2.fz⟩
      have Q2' : KC W2 (w.heap.size + 1) r g := ⟨Q2.c0, Q2.c1⟩
      have X2' : XC W2 xb z0 z1 z2 := ⟨X2.c0, X2.c1, X2.c2⟩
      have Y2' : YC W2 b off y0 y1 := ⟨Y2.c0, Y2.c1⟩
      clear S2 Q2 X2 Y2
      have B2' : Below W1.heap.size W1 W2 := ⟨B2.os, B2.tape, B2.output, B2.size, B2.block⟩
      clear B2 KW
      by_cases hA : z0 = y0
      · subst hA
        cases cb
        · have HZ : Aside (false = E) := by have := HF2.out; simp at this; exact this.symm
          clear HF2 hz1b
          refine wp_region_quietC (fun w' => Below W2.heap.size W2 w') (by kernel_rfl) (by kernel_rfl) (Below.refl _ _).drew ?_
          repeat (first
            | go_big_quiet_skip
            | (go_big_quiet_want; go_big_quiet_op; go_big_quiet_on)
            | (go_big_quiet_want; apply Exists.intro; refine ⟨fun w' hC => ?_, ?_⟩; (have S9 := S2'.below hC; have Q9 := Q2'.below hC; have X9 := X2'.below hC; have Y9 := Y2'.below hC; obtain ⟨s0', s1', s2', s3', s4', s5', s6', s7', -⟩ := S9; obtain ⟨q0', q1'⟩ := Q9; obtain ⟨x0', x1', x2'⟩ := X9; obtain ⟨y0', y1'⟩ := Y9; go_simp; first | rfl | exact ⟨rfl, hC⟩ | exact (HB.out _).mono fun e w'' ⟨he, hb'⟩ => ⟨he, bel_trans hC hb'⟩); (try simp only [Act.put, List.setIfInBounds_toArray, List.set_cons_zero, List.set_cons_succ]); go_big_quiet_on))
          refine wpQuiet_nil ?_
          intro w3 hC3
          have B3 := B2'.trans (hC3.mono B2'.size)
          go_wp2_with fail
          go_ret
          rw [← HZ.out]
          exact ⟨rfl, hbW.trans (B3.mono hbW.size)⟩
        · obtain ⟨z10, z11⟩ := hz1b rfl
          clear hz1b
          have y10 : 0 ≤ y1 ∧ y1 ≤ 40000 := by
            rcases ht0 with h0 | h0
            · rw [hfirst h0]; exact ⟨z10, z11⟩
            · exact h0
          obtain ⟨ya, yb⟩ := y10
          clear ht0 hfirst
          have hp0 : ¬ p = 0 := by omega
          have m1 : z1.tmod p = z1 % p := Int.tmod_eq_emod_of_nonneg z10
          have m2 : y1.tmod p = y1 % p := Int.tmod_eq_emod_of_nonneg ya
          by_cases hm : z1 % p = y1 % p
          · have HF3 : Aside ((wi (z1 / p - prev) 1 (l + 1) && posF c p n s l r g bg T f (i + 1) (z1 / p)) = E) := by
              have := HF2.out
              simpa [hm, Aside] using this
            clear HF2
            refine wp_region_quietC (fun w' => Below W2.heap.size W2 w') (by kernel_rfl) (by kernel_rfl) (Below.refl _ _).drew ?_
            repeat (first
              | go_big_quiet_skip
              | (go_big_quiet_want; go_big_quiet_op; go_big_quiet_on)
              | (go_big_quiet_want; apply Exists.intro; refine ⟨fun w' hC => ?_, ?_⟩; (have S9 := S2'.below hC; have Q9 := Q2'.below hC; have X9 := X2'.below hC; have Y9 := Y2'.below hC; obtain ⟨s0', s1', s2', s3', s4', s5', s6', s7', -⟩ := S9; obtain ⟨q0', q1'⟩ := Q9; obtain ⟨x0', x1', x2'⟩ := X9; obtain ⟨y0', y1'⟩ := Y9; go_simp; first | rfl | exact ⟨rfl, hC⟩ | exact (HB.out _).mono fun e w'' ⟨he, hb'⟩ => ⟨he, bel_trans hC hb'⟩); (try simp only [Act.put, List.setIfInBounds_toArray, List.set_cons_zero, List.set_cons_succ]); go_big_quiet_on))
            refine wpQuiet_nil ?_
            intro w3 hC3
            have B3 := B2'.trans (hC3.mono B2'.size)
            have S3' := S2'.below hC3
            have Q3' := Q2'.below hC3
            have X3' := X2'.below hC3
            have Y3' := Y2'.below hC3
            clear S2' Q2' X2' Y2' hC3 B2' HB m1 m2
            have d1 : z1.tdiv p = z1 / p := Int.tdiv_eq_ediv_of_nonneg z10
            obtain ⟨q, hq⟩ : ∃ z, z = z1 / p := ⟨_, rfl⟩
            have qq0 : 0 ≤ q := by rw [hq]; exact Int.ediv_nonneg z10 (by omega)
            have qq1 : q ≤ 40000 := by rw [hq]; exact Int.le_trans (Int.ediv_le_self _ z10) z11
            rw [← hq] at d1 HF3
            clear hq hm
            have i1 : IntKind.i64.wrap q = q := IntWalk.i64_in _ (by omega)
            have i2 : IntKind.i64.wrap (q - prev) = q - prev := IntWalk.i64_in _ (by omega)
            have i3 : IntKind.i64.wrap (l + 1) = l + 1 := IntWalk.i64_in _ (by omega)
            have hwi := within_any (q - prev) 1 (l + 1)
            obtain ⟨wb, hwb⟩ : ∃ z, z = wi (q - prev) 1 (l + 1) := ⟨_, rfl⟩
            rw [← hwb] at HF3 hwi
            have HW : Aside (∀ w : World, Calls Try.prog 59 #[.int .i64 (q - prev), .int .i64 1, .int .i64 (l + 1)] w fun e w' => e = .returned (.bool wb) ∧ w = w') := hwi
            clear hwi hwb
            go_upto_region 9 with fail
            refine wp_region_quietC (fun w' => Below w3.heap.size w3 w') (by kernel_rfl) (by kernel_rfl) (Below.refl _ _).drew ?_
            repeat (first
              | go_big_quiet_skip
              | (go_big_quiet_want; go_big_quiet_op; go_big_quiet_on)
              | (go_big_quiet_want; apply Exists.intro; refine ⟨fun w' hC => ?_, ?_⟩; (have S9 := S3'.below hC; have Q9 := Q3'.below hC; have X9 := X3'.below hC; have Y9 := Y3'.below hC; obtain ⟨s0', s1', s2', s3', s4', s5', s6', s7', -⟩ := S9; obtain ⟨q0', q1'⟩ := Q9; obtain ⟨x0', x1', x2'⟩ := X9; obtain ⟨y0', y1'⟩ := Y9; go_simp; first | rfl | exact ⟨rfl, hC⟩ | exact (HW.out _).mono fun e w'' ⟨he, hb'⟩ => ⟨he, by rw [← hb']; exact hC⟩); (try simp only [Act.put, List.setIfInBounds_toArray, List.set_cons_zero, List.set_cons_succ]); go_big_quiet_on))
            refine wpQuiet_nil ?_
            intro w4 hC4
            have B4 := B3.trans (hC4.mono B3.size)
            cases wb
            · have HZ : Aside (false = E) := by have := HF3.out; simp at this; exact this.symm
              go_wp2_with fail
              go_ret
              rw [← HZ.out]
              exact ⟨rfl, hbW.trans (B4.mono hbW.size)⟩
            · have HF4 : Aside (posF c p n s l r g bg T f (i + 1) q = E) := by
                have := HF3.out
                simpa [Aside] using this
              clear HF3
              have s1' := (S3'.below hC4).c1
              have x1' := (X3'.below hC4).c1
              clear S3' Q3' X3' Y3' hC4 HW B3
              go_wp2_with fail
              go_roundg f
              case measure => omega
              case rel =>
                refine ⟨i + 1, q, by omega, rfl, by first | rfl | go_num, B4, by omega, by omega, .inr ?_, HF4⟩
                rw [HT0.out.2.2.2]
                exact ⟨ya, yb⟩
          · have HZ : Aside (false = E) := by have := HF2.out; simp [hm] at this; exact this.symm
            have hm' : (z1 % p != y1 % p) = true := by rw [bne_iff_ne]; exact hm
            have hm2 : (z1 % p == y1 % p) = false := by rw [beq_eq_false_iff_ne]; exact hm
            clear HF2
            refine wp_region_quietC (fun w' => Below W2.heap.size W2 w') (by kernel_rfl) (by kernel_rfl) (Below.refl _ _).drew ?_
            repeat (first
              | go_big_quiet_skip
              | (go_big_quiet_want; go_big_quiet_op; go_big_quiet_on)
              | (go_big_quiet_want; apply Exists.intro; refine ⟨fun w' hC => ?_, ?_⟩; (have S9 := S2'.below hC; have Q9 := Q2'.below hC; have X9 := X2'.below hC; have Y9 := Y2'.below hC; obtain ⟨s0', s1', s2', s3', s4', s5', s6', s7', -⟩ := S9; obtain ⟨q0', q1'⟩ := Q9; obtain ⟨x0', x1', x2'⟩ := X9; obtain ⟨y0', y1'⟩ := Y9; go_simp; first | rfl | exact ⟨rfl, hC⟩ | exact (HB.out _).mono fun e w'' ⟨he, hb'⟩ => ⟨he, bel_trans hC hb'⟩); (try simp only [Act.put, List.setIfInBounds_toArray, List.set_cons_zero, List.set_cons_succ]); go_big_quiet_on))
            refine wpQuiet_nil ?_
            intro w3 hC3
            have B3 := B2'.trans (hC3.mono B2'.size)
            go_wp2_with fail
            go_ret
            rw [← HZ.out]
            exact ⟨rfl, hbW.trans (B3.mono hbW.size)⟩
      · have hA' : (z0 != y0) = true := by rw [bne_iff_ne]; exact hA
        have HZ : Aside (false = E) := by have := HF2.out; simp [hA] at this; exact this.symm
        have hA2 : (z0 == y0) = false := by rw [beq_eq_false_iff_ne]; exact hA
        clear HF2
        refine wp_region_quietC (fun w' => Below W2.heap.size W2 w') (by kernel_rfl) (by kernel_rfl) (Below.refl _ _).drew ?_
        repeat (first
          | go_big_quiet_skip
          | (go_big_quiet_want; go_big_quiet_op; go_big_quiet_on)
          | (go_big_quiet_want; apply Exists.intro; refine ⟨fun w' hC => ?_, ?_⟩; (have S9 := S2'.below hC; have Q9 := Q2'.below hC; have X9 := X2'.below hC; have Y9 := Y2'.below hC; obtain ⟨s0', s1', s2', s3', s4', s5', s6', s7', -⟩ := S9; obtain ⟨q0', q1'⟩ := Q9; obtain ⟨x0', x1', x2'⟩ := X9; obtain ⟨y0', y1'⟩ := Y9; go_simp; first | rfl | exact ⟨rfl, hC⟩ | exact (HB.out _).mono fun e w'' ⟨he, hb'⟩ => ⟨he, bel_trans hC hb'⟩); (try simp only [Act.put, List.setIfInBounds_toArray, List.set_cons_zero, List.set_cons_succ]); go_big_quiet_on))
        refine wpQuiet_nil ?_
        intro w3 hC3
        have B3 := B2'.trans (hC3.mono B2'.size)
        go_wp2_with fail
        go_ret
        rw [← HZ.out]
        exact ⟨rfl, hbW.trans (B3.mono hbW.size)⟩
end Go.Proofs.Ytngcfohmlppghaa
