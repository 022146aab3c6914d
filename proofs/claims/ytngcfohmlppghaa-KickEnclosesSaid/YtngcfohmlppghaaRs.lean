/- What is read from a well, made of numbers (shut): it is valid, and nothing but the ring's count turns. -/
import Derived.Test.YtngcfohmlppghaaRing
import Derived.Test.YtngcfohmlppghaaKl
import Derived.Test.YtngcfohmlppghaaKb
import Derived.Deep.RegionHeld3
import Derived.Deep.DeepCutAuto
namespace Go.Proofs.Ytngcfohmlppghaa
open Go.RowKit

/-- A well lies in a block and may be written. -/
structure XIs (w : World) (xb : Nat) (pl ph cl ch gl gh wt dp ar : Int) : Prop where
  c0 : w.cell? ⟨xb, 0, none⟩ = some (.int .i64 pl)
  c1 : w.cell? ⟨xb, 1, none⟩ = some (.int .i64 ph)
  c2 : w.cell? ⟨xb, 2, none⟩ = some (.int .i64 cl)
  c3 : w.cell? ⟨xb, 3, none⟩ = some (.int .i64 ch)
  c4 : w.cell? ⟨xb, 4, none⟩ = some (.int .i64 gl)
  c5 : w.cell? ⟨xb, 5, none⟩ = some (.int .i64 gh)
  c6 : w.cell? ⟨xb, 6, none⟩ = some (.int .i64 wt)
  c7 : w.cell? ⟨xb, 7, none⟩ = some (.int .i64 dp)
  c8 : w.cell? ⟨xb, 8, none⟩ = some (.int .i64 ar)
  fz : ∀ j, j < 9 → w.frozen? ⟨xb, j, none⟩ = false
theorem XIs.kept {w w' : World} {rb xb : Nat} {pl ph cl ch gl gh wt dp ar : Int} (h : XIs w xb pl ph cl ch gl gh wt dp ar) (k : RKept rb w w') (hne : xb ≠ rb) : XIs w' xb pl ph cl ch gl gh wt dp ar := by
  have hlt : xb < w.heap.size := lt_of_cell h.c0
  exact ⟨(k.cell (p := ⟨_, _, _⟩) hlt hne).trans h.c0, (k.cell (p := ⟨_, _, _⟩) hlt hne).trans h.c1, (k.cell (p := ⟨_, _, _⟩) hlt hne).trans h.c2, (k.cell (p := ⟨_, _, _⟩) hlt hne).trans h.c3, (k.cell (p := ⟨_, _, _⟩) hlt hne).trans h.c4,
    (k.cell (p := ⟨_, _, _⟩) hlt hne).trans h.c5, (k.cell (p := ⟨_, _, _⟩) hlt hne).trans h.c6, (k.cell (p := ⟨_, _, _⟩) hlt hne).trans h.c7, (k.cell (p := ⟨_, _, _⟩) hlt hne).trans h.c8, fun j hj => (k.frozen (p := ⟨_, _, _⟩) hlt hne).trans (h.fz j hj)⟩

theorem XIs.drew {w : World} {xb : Nat} {pl ph cl ch gl gh wt dp ar : Int} (h : XIs w xb pl ph cl ch gl gh wt dp ar) : XIs w.drew xb pl ph cl ch gl gh wt dp ar := ⟨h.c0, h.c1, h.c2, h.c3, h.c4, h.c5, h.c6, h.c7, h.c8, h.fz⟩
theorem RingIs.drew {w : World} {rb : Nat} {a : Option Addr} {len cap : Nat} {zs : List Int} {n : Nat} (h : RingIs w rb a len cap zs n) : RingIs w.drew rb a len cap zs n := ⟨h.c0, h.c1, h.fz, h.row, h.ne, h.lt⟩
theorem XIs.set0 {w : World} {xb : Nat} {pl ph cl ch gl gh wt dp ar : Int} (h : XIs w xb pl ph cl ch gl gh wt dp ar) (v : Int) : XIs (w.setCell ⟨xb, 0, none⟩ (.int .i64 v)) xb v ph cl ch gl gh wt dp ar :=
  ⟨(World.cell?_setCell_same _ _ _ h.c0), ((World.cell?_setCell_other _ _ _ _ (by simp)).trans h.c1), ((World.cell?_setCell_other _ _ _ _ (by simp)).trans h.c2), ((World.cell?_setCell_other _ _ _ _ (by simp)).trans h.c3), ((World.cell?_setCell_other _ _ _ _ (by simp)).trans h.c4), ((World.cell?_setCell_other _ _ _ _ (by simp)).trans h.c5), ((World.cell?_setCell_other _ _ _ _ (by simp)).trans h.c6), ((World.cell?_setCell_other _ _ _ _ (by simp)).trans h.c7), ((World.cell?_setCell_other _ _ _ _ (by simp)).trans h.c8), fun k hk => by simpa using h.fz k hk⟩
theorem XIs.set1 {w : World} {xb : Nat} {pl ph cl ch gl gh wt dp ar : Int} (h : XIs w xb pl ph cl ch gl gh wt dp ar) (v : Int) : XIs (w.setCell ⟨xb, 1, none⟩ (.int .i64 v)) xb pl v cl ch gl gh wt dp ar :=
  ⟨((World.cell?_setCell_other _ _ _ _ (by simp)).trans h.c0), (World.cell?_setCell_same _ _ _ h.c1), ((World.cell?_setCell_other _ _ _ _ (by simp)).trans h.c2), ((World.cell?_setCell_other _ _ _ _ (by simp)).trans h.c3), ((World.cell?_setCell_other _ _ _ _ (by simp)).trans h.c4), ((World.cell?_setCell_other _ _ _ _ (by simp)).trans h.c5), ((World.cell?_setCell_other _ _ _ _ (by simp)).trans h.c6), ((World.cell?_setCell_other _ _ _ _ (by simp)).trans h.c7), ((World.cell?_setCell_other _ _ _ _ (by simp)).trans h.c8), fun k hk => by simpa using h.fz k hk⟩
theorem XIs.set2 {w : World} {xb : Nat} {pl ph cl ch gl gh wt dp ar : Int} (h : XIs w xb pl ph cl ch gl gh wt dp ar) (v : Int) : XIs (w.setCell ⟨xb, 2, none⟩ (.int .i64 v)) xb pl ph v ch gl gh wt dp ar :=
  ⟨((World.cell?_setCell_other _ _ _ _ (by simp)).trans h.c0), ((World.cell?_setCell_other _ _ _ _ (by simp)).trans h.c1), (World.cell?_setCell_same _ _ _ h.c2), ((World.cell?_setCell_other _ _ _ _ (by simp)).trans h.c3), ((World.cell?_setCell_other _ _ _ _ (by simp)).trans h.c4), ((World.cell?_setCell_other _ _ _ _ (by simp)).trans h.c5), ((World.cell?_setCell_other _ _ _ _ (by simp)).trans h.c6), ((World.cell?_setCell_other _ _ _ _ (by simp)).trans h.c7), ((World.cell?_setCell_other _ _ _ _ (by simp)).trans h.c8), fun k hk => by simpa using h.fz k hk⟩
theorem XIs.set3 {w : World} {xb : Nat} {pl ph cl ch gl gh wt dp ar : Int} (h : XIs w xb pl ph cl ch gl gh wt dp ar) (v : Int) : XIs (w.setCell ⟨xb, 3, none⟩ (.int .i64 v)) xb pl ph cl v gl gh wt dp ar :=
  ⟨((World.cell?_setCell_other _ _ _ _ (by simp)).trans h.c0), ((World.cell?_setCell_other _ _ _ _ (by simp)).trans h.c1), ((World.cell?_setCell_other _ _ _ _ (by simp)).trans h.c2), (World.cell?_setCell_same _ _ _ h.c3), ((World.cell?_setCell_other _ _ _ _ (by simp)).trans h.c4), ((World.cell?_setCell_other _ _ _ _ (by simp)).trans h.c5), ((World.cell?_setCell_other _ _ _ _ (by simp)).trans h.c6), ((World.cell?_setCell_other _ _ _ _ (by simp)).trans h.c7), ((World.cell?_setCell_other _ _ _ _ (by simp)).trans h.c8), fun k hk => by simpa using h.fz k hk⟩
theorem XIs.set4 {w : World} {xb : Nat} {pl ph cl ch gl gh wt dp ar : Int} (h : XIs w xb pl ph cl ch gl gh wt dp ar) (v : Int) : XIs (w.setCell ⟨xb, 4, none⟩ (.int .i64 v)) xb pl ph cl ch v gh wt dp ar :=
  ⟨((World.cell?_setCell_other _ _ _ _ (by simp)).trans h.c0), ((World.cell?_setCell_other _ _ _ _ (by simp)).trans h.c1), ((World.cell?_setCell_other _ _ _ _ (by simp)).trans h.c2), ((World.cell?_setCell_other _ _ _ _ (by simp)).trans h.c3), (World.cell?_setCell_same _ _ _ h.c4), ((World.cell?_setCell_other _ _ _ _ (by simp)).trans h.c5), ((World.cell?_setCell_other _ _ _ _ (by simp)).trans h.c6), ((World.cell?_setCell_other _ _ _ _ (by simp)).trans h.c7), ((World.cell?_setCell_other _ _ _ _ (by simp)).trans h.c8), fun k hk => by simpa using h.fz k hk⟩
theorem XIs.set5 {w : World} {xb : Nat} {pl ph cl ch gl gh wt dp ar : Int} (h : XIs w xb pl ph cl ch gl gh wt dp ar) (v : Int) : XIs (w.setCell ⟨xb, 5, none⟩ (.int .i64 v)) xb pl ph cl ch gl v wt dp ar :=
  ⟨((World.cell?_setCell_other _ _ _ _ (by simp)).trans h.c0), ((World.cell?_setCell_other _ _ _ _ (by simp)).trans h.c1), ((World.cell?_setCell_other _ _ _ _ (by simp)).trans h.c2), ((World.cell?_setCell_other _ _ _ _ (by simp)).trans h.c3), ((World.cell?_setCell_other _ _ _ _ (by simp)).trans h.c4), (World.cell?_setCell_same _ _ _ h.c5), ((World.cell?_setCell_other _ _ _ _ (by simp)).trans h.c6), ((World.cell?_setCell_other _ _ _ _ (by simp)).trans h.c7), ((World.cell?_setCell_other _ _ _ _ (by simp)).trans h.c8), fun k hk => by simpa using h.fz k hk⟩
theorem next_x (n : Int) {rb xb : Nat} {a : Option Addr} {len cap : Nat} {zs : List Int} {k : Nat} {pl ph cl ch gl gh wt dp ar : Int} (w : World) (h : RingIs w rb a len cap zs k) (x : XIs w xb pl ph cl ch gl gh wt dp ar) (hne : xb ≠ rb) (hk : k ≤ 1000000) (n0 : 1 ≤ n) (n1 : n ≤ 4611686018427387904) :
    Calls Try.prog 17 #[.pointer (some ⟨rb, 0, none⟩), .int .i64 n] w fun e w' => ∃ v : Int, 0 ≤ v ∧ v < n ∧ e = .returned (.int .i64 v) ∧ RKept rb w w' ∧ RingIs w' rb a len cap zs (k + 1) ∧ XIs w' xb pl ph cl ch gl gh wt dp ar :=
  (next_any rb a len cap zs k n hk n0 n1 w h).mono fun _ _ ⟨v, v0, v1, he, hk', hr⟩ => ⟨v, v0, v1, he, hk', hr, x.kept hk' hne⟩

/-- A well was made. -/
def ShutOut (w : World) (rb : Nat) (e : Ending) (w' : World) : Prop :=
  ∃ pl ph cl ch gl gh wt dp ar : Int, 0 ≤ pl ∧ pl ≤ 1048575 ∧ pl ≤ ph ∧ ph ≤ pl + 524286 ∧ ph ≤ cl ∧ cl ≤ ph + 209715000 ∧ cl ≤ ch ∧ ch ≤ cl + 524286 ∧ 1 ≤ ar ∧ ar ≤ 500 ∧ ar ≤ gl ∧ gl ≤ ar + 1048575 ∧ gl ≤ gh ∧ gh ≤ gl + 32766 ∧ 9000 ≤ wt ∧ wt ≤ 20999 ∧ 1 ≤ dp ∧ dp ≤ 400000 ∧
    e = .returned (.agg (xv pl ph cl ch gl gh wt dp ar)) ∧ RKept rb w w'

set_option maxRecDepth 100000 in
set_option maxHeartbeats 1000000 in
theorem shut_any (rb : Nat) (a : Option Addr) (len cap : Nat) (zs : List Int) (k : Nat) (hk : k ≤ 900000) (w : World) (h : RingIs w rb a len cap zs k) :
    Calls Try.prog 46 #[.pointer (some ⟨rb, 0, none⟩)] w (ShutOut w rb) := by
  have hlt := h.lt
  go_enter Try.func46, Try.ntmps46
  go_wp2_with fail
  obtain ⟨w0, hw0⟩ : ∃ W, W = w.alloc (.cells #[.int .i64 0, .int .i64 0, .int .i64 0, .int .i64 0, .int .i64 0, .int .i64 0, .int .i64 0, .int .i64 0, .int .i64 0] 79) := ⟨_, rfl⟩
  have r0 : RingIs w0 rb a len cap zs k := by rw [hw0]; exact h.kept ((Below.refl w.heap.size w).alloc (Nat.le_refl _) _)
  have kw : RKept rb w w0 := by rw [hw0]; exact (RKept.refl rb w).alloc _
  have y0 : XIs w0 w.heap.size 0 0 0 0 0 0 0 0 0 := by rw [hw0]; exact ⟨by simp [go_sem], by simp [go_sem], by simp [go_sem], by simp [go_sem], by simp [go_sem], by simp [go_sem], by simp [go_sem], by simp [go_sem], by simp [go_sem], fun j _ => by simp [go_sem]⟩
  rw [← hw0]
  clear hw0
  have k0 : RKept rb w0 w0 := RKept.refl rb w0
  refine (next_any rb a len cap zs k 12000 (by omega) (by omega) (by omega) _ r0).mono ?_
  rintro e w1 ⟨wt, wt0, wt1, rfl, k1, r1⟩
  go_wp2_with fail
  refine (next_any rb a len cap zs (k + 1) 400000 (by omega) (by omega) (by omega) _ r1).mono ?_
  rintro e w2 ⟨dp, dp0, dp1, rfl, k2, r2⟩
  go_wp2_with fail
  refine (next_any rb a len cap zs (k + 2) 500 (by omega) (by omega) (by omega) _ r2).mono ?_
  rintro e w3 ⟨ar, ar0, ar1, rfl, k3, r3⟩
  have kk : RKept rb w0 w3 := ((k0.trans k1).trans k2).trans k3
  clear k0 k1 k2 k3 r0 r1 r2 h
  have hsz : w0.heap.size ≤ w3.heap.size := kk.size
  have hne : w3.heap.size ≠ rb := by have := r3.lt; omega
  have far : ∀ x, a = some x → 0 < cap → x.block ≠ w3.heap.size := fun x hx hc => by have := (r3.ne x hx hc).2; omega
  have r4 := r3.kept ((Below.refl w3.heap.size w3).alloc (Nat.le_refl _) (.cells #[.int .i64 0, .int .i64 0, .int .i64 0, .int .i64 0, .int .i64 0, .int .i64 0, .int .i64 (9000 + wt), .int .i64 (1 + dp), .int .i64 (1 + ar)] 79))
  have x4 : XIs (w3.alloc (.cells #[.int .i64 0, .int .i64 0, .int .i64 0, .int .i64 0, .int .i64 0, .int .i64 0, .int .i64 (9000 + wt), .int .i64 (1 + dp), .int .i64 (1 + ar)] 79)) w3.heap.size 0 0 0 0 0 0 (9000 + wt) (1 + dp) (1 + ar) := ⟨by simp [go_sem], by simp [go_sem], by simp [go_sem], by simp [go_sem], by simp [go_sem], by simp [go_sem], by simp [go_sem], by simp [go_sem], by simp [go_sem], fun j _ => by simp [go_sem]⟩
  have kk4 : RKept rb w0 (w3.alloc (.cells #[.int .i64 0, .int .i64 0, .int .i64 0, .int .i64 0, .int .i64 0, .int .i64 0, .int .i64 (9000 + wt), .int .i64 (1 + dp), .int .i64 (1 + ar)] 79)) := kk.alloc _
  clear kk r3
  go_wp2_with fail
  refine (next_x 1048576 _ r4 x4 hne (by omega) (by omega) (by omega)).mono ?_
  rintro e w5 ⟨pl, pl0, pl1, rfl, k5, r5, x5⟩
  have kk5 := kk4.trans k5
  have cc := x5.c0
  have ff := x5.fz 0 (by omega)
  clear kk4 k5 r4 x4
  go_wp2_with fail
  obtain ⟨W, hW⟩ : ∃ W, W = w5.setCell ⟨w3.heap.size, 0, none⟩ (.int .i64 pl) := ⟨_, rfl⟩
  have R : RingIs W.drew rb a len cap zs (k + 4) := by rw [hW]; exact (r5.far (by simpa using hne) far _).drew
  have X : XIs W.drew w3.heap.size pl 0 0 0 0 0 (9000 + wt) (1 + dp) (1 + ar) := by rw [hW]; exact (x5.set0 _).drew
  have KK : RKept rb w0 W.drew := by rw [hW]; exact (kk5.setCell (.inr hsz) _).drew
  rw [← hW]
  clear hW r5 x5 kk5 cc ff
  go_region_held3 (fun w' => w'.cell? ⟨w3.heap.size, 0, none⟩ = some (.int .i64 pl))
    (first
      | exact X.c0
      | exact XIs.c0 (by assumption)
      | (rw [World.cell?_setCell_other _ _ _ _ (by simp)]; exact XIs.c0 (by assumption)))
    (first
      | (go_at_call 17; refine (next_x 262144 _ r6 x6 hne (by omega) (by omega) (by omega)).mono ?_; rintro e w7 ⟨v7, v7a, v7b, rfl, k7, r7, x7⟩; have kk7 := kk6.trans k7; have cc := x7.c1; have ff := x7.fz 1 (by omega); obtain ⟨m0, m1⟩ := mul_bd v6a (show v6 ≤ 2 by omega) v7a (show v7 ≤ 262143 by omega); have i1 : IntKind.i64.wrap (v6 * v7) = v6 * v7 := IntWalk.i64_in _ (by omega); have i2 : IntKind.i64.wrap (pl + v6 * v7) = pl + v6 * v7 := IntWalk.i64_in _ (by omega))
      | (go_at_call 17; refine (next_x 3 _ R X hne (by omega) (by omega) (by omega)).mono ?_; rintro e w6 ⟨v6, v6a, v6b, rfl, k6, r6, x6⟩; have kk6 := KK.trans k6))
  obtain ⟨ph, Eph⟩ : ∃ z : Int, z = pl + v6 * v7 := ⟨_, rfl⟩
  have bph : pl ≤ ph ∧ ph ≤ pl + 524286 := by omega
  rw [← Eph]
  clear Eph m0 m1 i1 i2
  rename_i hh
  clear hh R X KK k6 r6 x6 kk6 k7
  go_wp2_with fail
  obtain ⟨W, hW⟩ : ∃ W, W = w7.setCell ⟨w3.heap.size, 1, none⟩ (.int .i64 ph) := ⟨_, rfl⟩
  have R : RingIs W.drew rb a len cap zs (k + 6) := by rw [hW]; exact (r7.far (by simpa using hne) far _).drew
  have X : XIs W.drew w3.heap.size pl ph 0 0 0 0 (9000 + wt) (1 + dp) (1 + ar) := by rw [hW]; exact (x7.set1 _).drew
  have KK : RKept rb w0 W.drew := by rw [hW]; exact (kk7.setCell (.inr hsz) _).drew
  rw [← hW]
  clear hW r7 x7 kk7 cc ff
  go_region_held3 (fun w' => w'.cell? ⟨w3.heap.size, 1, none⟩ = some (.int .i64 ph))
    (first
      | exact X.c1
      | exact XIs.c1 (by assumption)
      | (rw [World.cell?_setCell_other _ _ _ _ (by simp)]; exact XIs.c1 (by assumption)))
    (first
      | (go_at_call 17; refine (next_x 200 _ r8 x8 hne (by omega) (by omega) (by omega)).mono ?_; rintro e w9 ⟨v9, v9a, v9b, rfl, k9, r9, x9⟩; have kk9 := kk8.trans k9; have cc := x9.c2; have ff := x9.fz 2 (by omega); obtain ⟨m0, m1⟩ := mul_bd v8a (show v8 ≤ 1048575 by omega) (show (0 : Int) ≤ 1 + v9 by omega) (show 1 + v9 ≤ 200 by omega); have i0 : IntKind.i64.wrap (1 + v9) = 1 + v9 := IntWalk.i64_in _ (by omega); have i1 : IntKind.i64.wrap (v8 * (1 + v9)) = v8 * (1 + v9) := IntWalk.i64_in _ (by omega); have i2 : IntKind.i64.wrap (ph + v8 * (1 + v9)) = ph + v8 * (1 + v9) := IntWalk.i64_in _ (by omega))
      | (go_at_call 17; refine (next_x 1048576 _ R X hne (by omega) (by omega) (by omega)).mono ?_; rintro e w8 ⟨v8, v8a, v8b, rfl, k8, r8, x8⟩; have kk8 := KK.trans k8))
  obtain ⟨cl, Ecl⟩ : ∃ z : Int, z = ph + v8 * (1 + v9) := ⟨_, rfl⟩
  have bcl : ph ≤ cl ∧ cl ≤ ph + 209715000 := by omega
  rw [← Ecl]
  clear Ecl m0 m1 i0 i1 i2
  rename_i hh
  clear hh R X KK k8 r8 x8 kk8 k9
  go_wp2_with fail
  obtain ⟨W, hW⟩ : ∃ W, W = w9.setCell ⟨w3.heap.size, 2, none⟩ (.int .i64 cl) := ⟨_, rfl⟩
  have R : RingIs W.drew rb a len cap zs (k + 8) := by rw [hW]; exact (r9.far (by simpa using hne) far _).drew
  have X : XIs W.drew w3.heap.size pl ph cl 0 0 0 (9000 + wt) (1 + dp) (1 + ar) := by rw [hW]; exact (x9.set2 _).drew
  have KK : RKept rb w0 W.drew := by rw [hW]; exact (kk9.setCell (.inr hsz) _).drew
  rw [← hW]
  clear hW r9 x9 kk9 cc ff
  go_region_held3 (fun w' => w'.cell? ⟨w3.heap.size, 2, none⟩ = some (.int .i64 cl))
    (first
      | exact X.c2
      | exact XIs.c2 (by assumption)
      | (rw [World.cell?_setCell_other _ _ _ _ (by simp)]; exact XIs.c2 (by assumption)))
    (first
      | (go_at_call 17; refine (next_x 262144 _ r10 x10 hne (by omega) (by omega) (by omega)).mono ?_; rintro e w11 ⟨v11, v11a, v11b, rfl, k11, r11, x11⟩; have kk11 := kk10.trans k11; have cc := x11.c3; have ff := x11.fz 3 (by omega); obtain ⟨m0, m1⟩ := mul_bd v10a (show v10 ≤ 2 by omega) v11a (show v11 ≤ 262143 by omega); have i1 : IntKind.i64.wrap (v10 * v11) = v10 * v11 := IntWalk.i64_in _ (by omega); have i2 : IntKind.i64.wrap (cl + v10 * v11) = cl + v10 * v11 := IntWalk.i64_in _ (by omega))
      | (go_at_call 17; refine (next_x 3 _ R X hne (by omega) (by omega) (by omega)).mono ?_; rintro e w10 ⟨v10, v10a, v10b, rfl, k10, r10, x10⟩; have kk10 := KK.trans k10))
  obtain ⟨ch, Ech⟩ : ∃ z : Int, z = cl + v10 * v11 := ⟨_, rfl⟩
  have bch : cl ≤ ch ∧ ch ≤ cl + 524286 := by omega
  rw [← Ech]
  clear Ech m0 m1 i1 i2
  rename_i hh
  clear hh R X KK k10 r10 x10 kk10 k11
  go_wp2_with fail
  obtain ⟨W, hW⟩ : ∃ W, W = w11.setCell ⟨w3.heap.size, 3, none⟩ (.int .i64 ch) := ⟨_, rfl⟩
  have R : RingIs W.drew rb a len cap zs (k + 10) := by rw [hW]; exact (r11.far (by simpa using hne) far _).drew
  have X : XIs W.drew w3.heap.size pl ph cl ch 0 0 (9000 + wt) (1 + dp) (1 + ar) := by rw [hW]; exact (x11.set3 _).drew
  have KK : RKept rb w0 W.drew := by rw [hW]; exact (kk11.setCell (.inr hsz) _).drew
  rw [← hW]
  clear hW r11 x11 kk11 cc ff
  go_region_held3 (fun w' => w'.cell? ⟨w3.heap.size, 8, none⟩ = some (.int .i64 (1 + ar)))
    (first
      | exact X.c8
      | exact XIs.c8 (by assumption)
      | (rw [World.cell?_setCell_other _ _ _ _ (by simp)]; exact XIs.c8 (by assumption)))
    (first
      | (go_at_call 17; refine (next_x 1048576 _ R X hne (by omega) (by omega) (by omega)).mono ?_; rintro e w12 ⟨v12, v12a, v12b, rfl, k12, r12, x12⟩; have kk12 := KK.trans k12; have cc := x12.c4; have ff := x12.fz 4 (by omega); have i2 : IntKind.i64.wrap (1 + ar + v12) = 1 + ar + v12 := IntWalk.i64_in _ (by omega)))
  obtain ⟨gl, Egl⟩ : ∃ z : Int, z = 1 + ar + v12 := ⟨_, rfl⟩
  have bgl : 1 + ar ≤ gl ∧ gl ≤ 1 + ar + 1048575 := by omega
  rw [← Egl]
  clear Egl i2
  rename_i hh
  clear hh R X KK k12
  go_wp2_with fail
  obtain ⟨W, hW⟩ : ∃ W, W = w12.setCell ⟨w3.heap.size, 4, none⟩ (.int .i64 gl) := ⟨_, rfl⟩
  have R : RingIs W.drew rb a len cap zs (k + 11) := by rw [hW]; exact (r12.far (by simpa using hne) far _).drew
  have X : XIs W.drew w3.heap.size pl ph cl ch gl 0 (9000 + wt) (1 + dp) (1 + ar) := by rw [hW]; exact (x12.set4 _).drew
  have KK : RKept rb w0 W.drew := by rw [hW]; exact (kk12.setCell (.inr hsz) _).drew
  rw [← hW]
  clear hW r12 x12 kk12 cc ff
  go_region_held3 (fun w' => w'.cell? ⟨w3.heap.size, 4, none⟩ = some (.int .i64 gl))
    (first
      | exact X.c4
      | exact XIs.c4 (by assumption)
      | (rw [World.cell?_setCell_other _ _ _ _ (by simp)]; exact XIs.c4 (by assumption)))
    (first
      | (go_at_call 17; refine (next_x 16384 _ r13 x13 hne (by omega) (by omega) (by omega)).mono ?_; rintro e w14 ⟨v14, v14a, v14b, rfl, k14, r14, x14⟩; have kk14 := kk13.trans k14; have cc := x14.c5; have ff := x14.fz 5 (by omega); obtain ⟨m0, m1⟩ := mul_bd v13a (show v13 ≤ 2 by omega) v14a (show v14 ≤ 16383 by omega); have i1 : IntKind.i64.wrap (v13 * v14) = v13 * v14 := IntWalk.i64_in _ (by omega); have i2 : IntKind.i64.wrap (gl + v13 * v14) = gl + v13 * v14 := IntWalk.i64_in _ (by omega))
      | (go_at_call 17; refine (next_x 3 _ R X hne (by omega) (by omega) (by omega)).mono ?_; rintro e w13 ⟨v13, v13a, v13b, rfl, k13, r13, x13⟩; have kk13 := KK.trans k13))
  obtain ⟨gh, Egh⟩ : ∃ z : Int, z = gl + v13 * v14 := ⟨_, rfl⟩
  have bgh : gl ≤ gh ∧ gh ≤ gl + 32766 := by omega
  rw [← Egh]
  clear Egh m0 m1 i1 i2
  rename_i hh
  clear hh R X KK k13 r13 x13 kk13 k14
  obtain ⟨W, hW⟩ : ∃ W, W = w14.setCell ⟨w3.heap.size, 5, none⟩ (.int .i64 gh) := ⟨_, rfl⟩
  have R : RingIs W rb a len cap zs (k + 13) := by rw [hW]; exact (r14.far (by simpa using hne) far _)
  have X : XIs W w3.heap.size pl ph cl ch gl gh (9000 + wt) (1 + dp) (1 + ar) := by rw [hW]; exact (x14.set5 _)
  have KK : RKept rb w0 W := by rw [hW]; exact (kk14.setCell (.inr hsz) _)
  rw [← hW]
  clear hW r14 x14 kk14 cc ff
  have Y : XIs W w.heap.size 0 0 0 0 0 0 0 0 0 := y0.kept KK (by omega)
  obtain ⟨c0, c1, c2, c3, c4, c5, c6, c7, c8, -⟩ := X
  obtain ⟨d0, d1, d2, d3, d4, d5, d6, d7, d8, gz⟩ := Y
  have g0 := gz 0 (by omega)
  have g1 := gz 1 (by omega)
  have g2 := gz 2 (by omega)
  have g3 := gz 3 (by omega)
  have g4 := gz 4 (by omega)
  have g5 := gz 5 (by omega)
  have g6 := gz 6 (by omega)
  have g7 := gz 7 (by omega)
  have g8 := gz 8 (by omega)
  clear gz R
  go_wp2_with fail
  have kf : RKept rb w W := kw.trans KK
  clear KK kw y0
  refine bodyPost_ret (v := .agg (xv pl ph cl ch gl gh (9000 + wt) (1 + dp) (1 + ar))) (by simp [results, Try.results46, go_sem, d0, d1, d2, d3, d4, d5, d6, d7, d8]) rfl ⟨pl, ph, cl, ch, gl, gh, 9000 + wt, 1 + dp, 1 + ar, by omega, by omega, by omega, by omega, by omega, by omega, by omega, by omega, by omega, by omega, by omega, by omega, by omega, by omega, by omega, by omega, by omega, by omega, rfl, ?_⟩
  exact ((((((((kf.setCell (.inr (Nat.le_refl _)) _).setCell (.inr (Nat.le_refl _)) _).setCell (.inr (Nat.le_refl _)) _).setCell (.inr (Nat.le_refl _)) _).setCell (.inr (Nat.le_refl _)) _).setCell (.inr (Nat.le_refl _)) _).setCell (.inr (Nat.le_refl _)) _).setCell (.inr (Nat.le_refl _)) _).setCell (.inr (Nat.le_refl _)) _
end Go.Proofs.Ytngcfohmlppghaa
