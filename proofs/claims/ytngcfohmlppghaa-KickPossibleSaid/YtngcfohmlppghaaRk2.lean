/- Sensors and sets of kicks that are made of numbers: they are valid, and nothing but the ring's count turns. -/
import Derived.Test.YtngcfohmlppghaaRk
import Derived.Test.YtngcfohmlppghaaKa
import Derived.Deep.DeepCutAuto
import Derived.Deep.RegionHeld3
namespace Go.Proofs.Ytngcfohmlppghaa
open Go.RowKit

/-- The bounds of a sensor that is made. -/
def SensBd (c p d n s l m k : Int) : Prop := (c = 1 ∨ c = 2) ∧ 1 ≤ p ∧ p ≤ 12 ∧ 0 ≤ d ∧ d ≤ 38 ∧ 0 ≤ n ∧ n ≤ 3 ∧ 1 ≤ s ∧ s ≤ 500 ∧ 0 ≤ l ∧ l ≤ 3 ∧ 1 ≤ m ∧ m ≤ 180000 ∧ 1 ≤ k ∧ k ≤ 4
theorem SensBd.ok {c p d n s l m k : Int} (h : SensBd c p d n s l m k) : (c = 1 ∨ c = 2) ∧ sensB p d n s l m k = true := by
  obtain ⟨h0, h⟩ := h
  exact ⟨h0, by simp [sensB, wi]; omega⟩
/-- A sensor was made. -/
def SensOut (w : World) (rb : Nat) (a : Option Addr) (len cap : Nat) (zs : List Int) (k0 : Nat) (e : Ending) (w' : World) : Prop :=
  ∃ c p d n s l m k : Int, SensBd c p d n s l m k ∧ e = .returned (.agg (sv c p d n s l m k)) ∧ RKept rb w w' ∧ RingIs w' rb a len cap zs (k0 + 9)

set_option maxRecDepth 100000 in
set_option maxHeartbeats 1000000 in
theorem sensorOf_any (rb : Nat) (a : Option Addr) (len cap : Nat) (zs : List Int) (k : Nat) (hk : k ≤ 900000) (w : World) (h : RingIs w rb a len cap zs k) :
    Calls Try.prog 16 #[.pointer (some ⟨rb, 0, none⟩)] w (SensOut w rb a len cap zs k) := by
  have hlt := h.lt
  have far : ∀ x, a = some x → 0 < cap → x.block ≠ w.heap.size := fun x hx hc => by have := (h.ne x hx hc).2; omega
  obtain ⟨w0, hw0⟩ : ∃ W, W = w.alloc (.cells (sv 0 0 0 0 0 0 0 0) 32) := ⟨_, rfl⟩
  have r0 : RingIs w0 rb a len cap zs k := by rw [hw0]; exact h.kept ((Below.refl w.heap.size w).alloc (Nat.le_refl _) _)
  have kw : RKept rb w w0 := by rw [hw0]; exact (RKept.refl rb w).alloc _
  have y0 : ∀ j, j < 8 → w0.cell? ⟨w.heap.size, j, none⟩ = some (.int .i64 0) := by
    intro j hj
    rw [hw0]
    rcases j with _ | _ | _ | _ | _ | _ | _ | _ | j <;> first | omega | simp [go_sem]
  have z0 : ∀ j, w0.frozen? ⟨w.heap.size, j, none⟩ = false := by intro j; rw [hw0]; simp [go_sem]
  have hs0 : w.heap.size < w0.heap.size := by rw [hw0]; simp
  go_enter Try.func16, Try.ntmps16
  go_wp2_with fail
  rw [← hw0]
  clear hw0 h

  refine (next_any rb a len cap zs k 2 (by omega) (by omega) (by omega) _ r0).mono ?_
  rintro e w1 ⟨v1, a1, b1, rfl, k1, r1⟩
  go_wp2_with fail
  refine (next_any rb a len cap zs (k + 1) 12 (by omega) (by omega) (by omega) _ r1).mono ?_
  rintro e w2 ⟨v2, a2, b2, rfl, k2, r2⟩
  go_wp2_with fail
  refine (next_any rb a len cap zs (k + 2) 3 (by omega) (by omega) (by omega) _ r2).mono ?_
  rintro e w3 ⟨v3, a3, b3, rfl, k3, r3⟩
  go_wp2_with fail
  refine (next_any rb a len cap zs (k + 3) 20 (by omega) (by omega) (by omega) _ r3).mono ?_
  rintro e w4 ⟨v4, a4, b4, rfl, k4, r4⟩
  obtain ⟨m0, m1⟩ := mul_bd a3 (show v3 ≤ 2 by omega) a4 (show v4 ≤ 19 by omega)
  go_wp2_with fail
  refine (next_any rb a len cap zs (k + 4) 4 (by omega) (by omega) (by omega) _ r4).mono ?_
  rintro e w5 ⟨v5, a5, b5, rfl, k5, r5⟩
  go_wp2_with fail
  refine (next_any rb a len cap zs (k + 5) 500 (by omega) (by omega) (by omega) _ r5).mono ?_
  rintro e w6 ⟨v6, a6, b6, rfl, k6, r6⟩
  go_wp2_with fail
  refine (next_any rb a len cap zs (k + 6) 4 (by omega) (by omega) (by omega) _ r6).mono ?_
  rintro e w7 ⟨v7, a7, b7, rfl, k7, r7⟩
  go_wp2_with fail
  refine (next_any rb a len cap zs (k + 7) 9000 (by omega) (by omega) (by omega) _ r7).mono ?_
  rintro e w8 ⟨v8, a8, b8, rfl, k8, r8⟩
  go_wp2_with fail
  refine (next_any rb a len cap zs (k + 8) 4 (by omega) (by omega) (by omega) _ r8).mono ?_
  rintro e w9 ⟨v9, a9, b9, rfl, k9, r9⟩
  have kk : RKept rb w0 w9 := (((((((k1.trans k2).trans k3).trans k4).trans k5).trans k6).trans k7).trans k8).trans k9
  have hs : w.heap.size < w9.heap.size := Nat.lt_of_lt_of_le hs0 kk.size
  have cc : ∀ j, j < 8 → w9.cell? ⟨w.heap.size, j, none⟩ = some (.int .i64 0) := fun j hj => (kk.cell (p := ⟨_, _, _⟩) hs0 (by simp; omega)).trans (y0 j hj)
  have ff : ∀ j, w9.frozen? ⟨w.heap.size, j, none⟩ = false := fun j => (kk.frozen (p := ⟨_, _, _⟩) hs0 (by simp; omega)).trans (z0 j)
  have hk1 : RKept rb w w9 := kw.trans kk
  clear k1 k2 k3 k4 k5 k6 k7 k8 k9 r0 r1 r2 r3 r4 r5 r6 r7 r8 kk kw y0 z0
  have c0 := cc 0 (by omega)
  have f0 := ff 0
  have c1 := cc 1 (by omega)
  have f1 := ff 1
  have c2 := cc 2 (by omega)
  have f2 := ff 2
  have c3 := cc 3 (by omega)
  have f3 := ff 3
  have c4 := cc 4 (by omega)
  have f4 := ff 4
  have c5 := cc 5 (by omega)
  have f5 := ff 5
  have c6 := cc 6 (by omega)
  have f6 := ff 6
  have c7 := cc 7 (by omega)
  have f7 := ff 7
  clear cc ff
  go_upto_region 2 with fail
  obtain ⟨W, hW⟩ : ∃ W, W = w9.alloc (.cells (sv (1 + v1) (1 + v2) (v3 * v4) v5 (1 + v6) v7 (1 + v8) (1 + v9)) 32) := ⟨_, rfl⟩
  have far9 : ∀ x, a = some x → 0 < cap → x.block ≠ w9.heap.size := fun x hx hc => by have := (r9.ne x hx hc).2; omega
  have R : RingIs W rb a len cap zs (k + 9) := by rw [hW]; exact r9.kept ((Below.refl w9.heap.size w9).alloc (Nat.le_refl _) _)
  have K : RKept rb w W := by rw [hW]; exact hk1.alloc _
  have hne9 : rb ≠ w9.heap.size := by have := r9.lt; omega
  have s0 : W.cell? ⟨w9.heap.size, 0, none⟩ = some (.int .i64 (1 + v1)) := by rw [hW]; simp [go_sem]
  have s1 : W.cell? ⟨w9.heap.size, 1, none⟩ = some (.int .i64 (1 + v2)) := by rw [hW]; simp [go_sem]
  have s2 : W.cell? ⟨w9.heap.size, 2, none⟩ = some (.int .i64 (v3 * v4)) := by rw [hW]; simp [go_sem]
  have s3 : W.cell? ⟨w9.heap.size, 3, none⟩ = some (.int .i64 v5) := by rw [hW]; simp [go_sem]
  have s4 : W.cell? ⟨w9.heap.size, 4, none⟩ = some (.int .i64 (1 + v6)) := by rw [hW]; simp [go_sem]
  have s5 : W.cell? ⟨w9.heap.size, 5, none⟩ = some (.int .i64 v7) := by rw [hW]; simp [go_sem]
  have s6 : W.cell? ⟨w9.heap.size, 6, none⟩ = some (.int .i64 (1 + v8)) := by rw [hW]; simp [go_sem]
  have s7 : W.cell? ⟨w9.heap.size, 7, none⟩ = some (.int .i64 (1 + v9)) := by rw [hW]; simp [go_sem]
  have sz : W.frozen? ⟨w9.heap.size, 6, none⟩ = false := by rw [hW]; simp [go_sem]
  have d0 : W.cell? ⟨w.heap.size, 0, none⟩ = some (.int .i64 0) := by rw [hW]; simp [go_sem, World.cell?_alloc_past, hs, c0]
  have e0 : W.frozen? ⟨w.heap.size, 0, none⟩ = false := by rw [hW]; exact (((Below.refl w9.heap.size w9).alloc (Nat.le_refl _) _).frozen (p := ⟨_, _, _⟩) hs).trans f0
  have d1 : W.cell? ⟨w.heap.size, 1, none⟩ = some (.int .i64 0) := by rw [hW]; simp [go_sem, World.cell?_alloc_past, hs, c1]
  have e1 : W.frozen? ⟨w.heap.size, 1, none⟩ = false := by rw [hW]; exact (((Below.refl w9.heap.size w9).alloc (Nat.le_refl _) _).frozen (p := ⟨_, _, _⟩) hs).trans f1
  have d2 : W.cell? ⟨w.heap.size, 2, none⟩ = some (.int .i64 0) := by rw [hW]; simp [go_sem, World.cell?_alloc_past, hs, c2]
  have e2 : W.frozen? ⟨w.heap.size, 2, none⟩ = false := by rw [hW]; exact (((Below.refl w9.heap.size w9).alloc (Nat.le_refl _) _).frozen (p := ⟨_, _, _⟩) hs).trans f2
  have d3 : W.cell? ⟨w.heap.size, 3, none⟩ = some (.int .i64 0) := by rw [hW]; simp [go_sem, World.cell?_alloc_past, hs, c3]
  have e3 : W.frozen? ⟨w.heap.size, 3, none⟩ = false := by rw [hW]; exact (((Below.refl w9.heap.size w9).alloc (Nat.le_refl _) _).frozen (p := ⟨_, _, _⟩) hs).trans f3
  have d4 : W.cell? ⟨w.heap.size, 4, none⟩ = some (.int .i64 0) := by rw [hW]; simp [go_sem, World.cell?_alloc_past, hs, c4]
  have e4 : W.frozen? ⟨w.heap.size, 4, none⟩ = false := by rw [hW]; exact (((Below.refl w9.heap.size w9).alloc (Nat.le_refl _) _).frozen (p := ⟨_, _, _⟩) hs).trans f4
  have d5 : W.cell? ⟨w.heap.size, 5, none⟩ = some (.int .i64 0) := by rw [hW]; simp [go_sem, World.cell?_alloc_past, hs, c5]
  have e5 : W.frozen? ⟨w.heap.size, 5, none⟩ = false := by rw [hW]; exact (((Below.refl w9.heap.size w9).alloc (Nat.le_refl _) _).frozen (p := ⟨_, _, _⟩) hs).trans f5
  have d6 : W.cell? ⟨w.heap.size, 6, none⟩ = some (.int .i64 0) := by rw [hW]; simp [go_sem, World.cell?_alloc_past, hs, c6]
  have e6 : W.frozen? ⟨w.heap.size, 6, none⟩ = false := by rw [hW]; exact (((Below.refl w9.heap.size w9).alloc (Nat.le_refl _) _).frozen (p := ⟨_, _, _⟩) hs).trans f6
  have d7 : W.cell? ⟨w.heap.size, 7, none⟩ = some (.int .i64 0) := by rw [hW]; simp [go_sem, World.cell?_alloc_past, hs, c7]
  have e7 : W.frozen? ⟨w.heap.size, 7, none⟩ = false := by rw [hW]; exact (((Below.refl w9.heap.size w9).alloc (Nat.le_refl _) _).frozen (p := ⟨_, _, _⟩) hs).trans f7
  rw [← hW]
  clear hW r9 hk1 c0 c1 c2 c3 c4 c5 c6 c7 f0 f1 f2 f3 f4 f5 f6 f7
  go_upto_region 4 with fail
  · obtain ⟨V, hV⟩ : ∃ V, V = W.setCell ⟨w9.heap.size, 6, none⟩ (.int .i64 ((1 + v8) * 20)) := ⟨_, rfl⟩
    have R' : RingIs V rb a len cap zs (k + 9) := by rw [hV]; exact R.far (by simp; omega) far9 _
    have K' : RKept rb w V := by rw [hV]; exact K.setCell (.inr (by simp; omega)) _
    have hwv : w.heap.size ≠ w9.heap.size := by omega
    have t0 : V.cell? ⟨w9.heap.size, 0, none⟩ = some (.int .i64 (1 + v1)) := by rw [hV]; exact (World.cell?_setCell_other _ _ _ _ (by simp)).trans s0
    have t1 : V.cell? ⟨w9.heap.size, 1, none⟩ = some (.int .i64 (1 + v2)) := by rw [hV]; exact (World.cell?_setCell_other _ _ _ _ (by simp)).trans s1
    have t2 : V.cell? ⟨w9.heap.size, 2, none⟩ = some (.int .i64 (v3 * v4)) := by rw [hV]; exact (World.cell?_setCell_other _ _ _ _ (by simp)).trans s2
    have t3 : V.cell? ⟨w9.heap.size, 3, none⟩ = some (.int .i64 v5) := by rw [hV]; exact (World.cell?_setCell_other _ _ _ _ (by simp)).trans s3
    have t4 : V.cell? ⟨w9.heap.size, 4, none⟩ = some (.int .i64 (1 + v6)) := by rw [hV]; exact (World.cell?_setCell_other _ _ _ _ (by simp)).trans s4
    have t5 : V.cell? ⟨w9.heap.size, 5, none⟩ = some (.int .i64 v7) := by rw [hV]; exact (World.cell?_setCell_other _ _ _ _ (by simp)).trans s5
    have t6 : V.cell? ⟨w9.heap.size, 6, none⟩ = some (.int .i64 ((1 + v8) * 20)) := by rw [hV]; exact World.cell?_setCell_same _ _ _ s6
    have t7 : V.cell? ⟨w9.heap.size, 7, none⟩ = some (.int .i64 (1 + v9)) := by rw [hV]; exact (World.cell?_setCell_other _ _ _ _ (by simp)).trans s7
    have x0 : V.cell? ⟨w.heap.size, 0, none⟩ = some (.int .i64 0) := by rw [hV]; exact (World.cell?_setCell_other _ _ _ _ (fun e => hwv (congrArg Addr.block e).symm)).trans d0
    have y0 : V.frozen? ⟨w.heap.size, 0, none⟩ = false := by rw [hV]; simpa using e0
    have x1 : V.cell? ⟨w.heap.size, 1, none⟩ = some (.int .i64 0) := by rw [hV]; exact (World.cell?_setCell_other _ _ _ _ (fun e => hwv (congrArg Addr.block e).symm)).trans d1
    have y1 : V.frozen? ⟨w.heap.size, 1, none⟩ = false := by rw [hV]; simpa using e1
    have x2 : V.cell? ⟨w.heap.size, 2, none⟩ = some (.int .i64 0) := by rw [hV]; exact (World.cell?_setCell_other _ _ _ _ (fun e => hwv (congrArg Addr.block e).symm)).trans d2
    have y2 : V.frozen? ⟨w.heap.size, 2, none⟩ = false := by rw [hV]; simpa using e2
    have x3 : V.cell? ⟨w.heap.size, 3, none⟩ = some (.int .i64 0) := by rw [hV]; exact (World.cell?_setCell_other _ _ _ _ (fun e => hwv (congrArg Addr.block e).symm)).trans d3
    have y3 : V.frozen? ⟨w.heap.size, 3, none⟩ = false := by rw [hV]; simpa using e3
    have x4 : V.cell? ⟨w.heap.size, 4, none⟩ = some (.int .i64 0) := by rw [hV]; exact (World.cell?_setCell_other _ _ _ _ (fun e => hwv (congrArg Addr.block e).symm)).trans d4
    have y4 : V.frozen? ⟨w.heap.size, 4, none⟩ = false := by rw [hV]; simpa using e4
    have x5 : V.cell? ⟨w.heap.size, 5, none⟩ = some (.int .i64 0) := by rw [hV]; exact (World.cell?_setCell_other _ _ _ _ (fun e => hwv (congrArg Addr.block e).symm)).trans d5
    have y5 : V.frozen? ⟨w.heap.size, 5, none⟩ = false := by rw [hV]; simpa using e5
    have x6 : V.cell? ⟨w.heap.size, 6, none⟩ = some (.int .i64 0) := by rw [hV]; exact (World.cell?_setCell_other _ _ _ _ (fun e => hwv (congrArg Addr.block e).symm)).trans d6
    have y6 : V.frozen? ⟨w.heap.size, 6, none⟩ = false := by rw [hV]; simpa using e6
    have x7 : V.cell? ⟨w.heap.size, 7, none⟩ = some (.int .i64 0) := by rw [hV]; exact (World.cell?_setCell_other _ _ _ _ (fun e => hwv (congrArg Addr.block e).symm)).trans d7
    have y7 : V.frozen? ⟨w.heap.size, 7, none⟩ = false := by rw [hV]; simpa using e7
    rw [← hV]
    clear hV s0 s1 s2 s3 s4 s5 s6 s7 sz d0 d1 d2 d3 d4 d5 d6 d7 e0 e1 e2 e3 e4 e5 e6 e7 R K
    go_wp2_with fail
    refine bodyPost_ret (v := .agg (sv (1 + v1) (1 + v2) (v3 * v4) v5 (1 + v6) v7 ((1 + v8) * 20) (1 + v9))) (by simp [results, Try.results16, go_sem, x0, x1, x2, x3, x4, x5, x6, x7]) rfl ⟨1 + v1, 1 + v2, v3 * v4, v5, 1 + v6, v7, ((1 + v8) * 20), 1 + v9, ⟨by omega, by omega, by omega, by omega, by omega, by omega, by omega, by omega, by omega, by omega, by omega, by omega, by omega, by omega, by omega⟩, rfl, ?_, ?_⟩
    · exact ((((((((K'.setCell (.inr (Nat.le_refl _)) _).setCell (.inr (Nat.le_refl _)) _).setCell (.inr (Nat.le_refl _)) _).setCell (.inr (Nat.le_refl _)) _).setCell (.inr (Nat.le_refl _)) _).setCell (.inr (Nat.le_refl _)) _).setCell (.inr (Nat.le_refl _)) _).setCell (.inr (Nat.le_refl _)) _)
    · exact ((((((((R'.far (by simp; omega) far _).far (by simp; omega) far _).far (by simp; omega) far _).far (by simp; omega) far _).far (by simp; omega) far _).far (by simp; omega) far _).far (by simp; omega) far _).far (by simp; omega) far _)
  · go_wp2_with fail
    refine bodyPost_ret (v := .agg (sv (1 + v1) (1 + v2) (v3 * v4) v5 (1 + v6) v7 (1 + v8) (1 + v9))) (by simp [results, Try.results16, go_sem, d0, d1, d2, d3, d4, d5, d6, d7]) rfl ⟨1 + v1, 1 + v2, v3 * v4, v5, 1 + v6, v7, (1 + v8), 1 + v9, ⟨by omega, by omega, by omega, by omega, by omega, by omega, by omega, by omega, by omega, by omega, by omega, by omega, by omega, by omega, by omega⟩, rfl, ?_, ?_⟩
    · exact ((((((((K.setCell (.inr (Nat.le_refl _)) _).setCell (.inr (Nat.le_refl _)) _).setCell (.inr (Nat.le_refl _)) _).setCell (.inr (Nat.le_refl _)) _).setCell (.inr (Nat.le_refl _)) _).setCell (.inr (Nat.le_refl _)) _).setCell (.inr (Nat.le_refl _)) _).setCell (.inr (Nat.le_refl _)) _)
    · exact ((((((((R.far (by simp; omega) far _).far (by simp; omega) far _).far (by simp; omega) far _).far (by simp; omega) far _).far (by simp; omega) far _).far (by simp; omega) far _).far (by simp; omega) far _).far (by simp; omega) far _)

/-- A set of kicks was made. -/
def KicksOut (w : World) (rb : Nat) (a : Option Addr) (len cap : Nat) (zs : List Int) (k0 : Nat) (e : Ending) (w' : World) : Prop :=
  ∃ r0 r1 g0 g1 : Int, 0 ≤ r0 ∧ r0 ≤ r1 ∧ r1 ≤ 12998 ∧ 0 ≤ g0 ∧ g0 ≤ g1 ∧ g1 ≤ 499 ∧ e = .returned (.agg #[.int .i64 r0, .int .i64 r1, .int .i64 g0, .int .i64 g1]) ∧ RKept rb w w' ∧ RingIs w' rb a len cap zs (k0 + 6)
/-- Two numbers are there. -/
structure KC (w : World) (kb : Nat) (r g : Int) : Prop where
  c0 : w.cell? ⟨kb, 0, none⟩ = some (.int .i64 r)
  c1 : w.cell? ⟨kb, 1, none⟩ = some (.int .i64 g)
theorem KC.kept {w w' : World} {rb kb : Nat} {r g : Int} (h : KC w kb r g) (k : RKept rb w w') (hne : kb ≠ rb) : KC w' kb r g :=
  have hlt : kb < w.heap.size := lt_of_cell h.1
  ⟨(k.cell (p := ⟨_, _, _⟩) hlt hne).trans h.1, (k.cell (p := ⟨_, _, _⟩) hlt hne).trans h.2⟩
theorem KC.far {w : World} {b o kb : Nat} {r g : Int} {v : Value} (h : KC w kb r g) (hne : kb ≠ b) : KC (w.setCell ⟨b, o, none⟩ v) kb r g :=
  ⟨(World.cell?_setCell_other _ _ _ _ (fun e => hne (congrArg Addr.block e).symm)).trans h.1, (World.cell?_setCell_other _ _ _ _ (fun e => hne (congrArg Addr.block e).symm)).trans h.2⟩
set_option maxHeartbeats 1000000 in
theorem kicksOf_any (rb : Nat) (a : Option Addr) (len cap : Nat) (zs : List Int) (k : Nat) (hk : k ≤ 900000) (w : World) (h : RingIs w rb a len cap zs k) :
    Calls Try.prog 28 #[.pointer (some ⟨rb, 0, none⟩)] w (KicksOut w rb a len cap zs k) := by
  go_enter Try.func28, Try.ntmps28
  go_wp2_with fail
  have hlt := h.lt
  have far : ∀ x, a = some x → 0 < cap → x.block ≠ w.heap.size := fun x hx hc => by have := (h.ne x hx hc).2; omega
  obtain ⟨w0, hw0⟩ : ∃ W, W = w.alloc (.cells #[.int .i64 0, .int .i64 0, .int .i64 0, .int .i64 0] 56) := ⟨_, rfl⟩
  have r0 : RingIs w0 rb a len cap zs k := by rw [hw0]; exact h.kept ((Below.refl w.heap.size w).alloc (Nat.le_refl _) _)
  have kw : RKept rb w w0 := by rw [hw0]; exact (RKept.refl rb w).alloc _
  have y0 : ∀ j, j < 4 → w0.cell? ⟨w.heap.size, j, none⟩ = some (.int .i64 0) := by
    intro j hj
    rw [hw0]
    rcases j with _ | _ | _ | _ | j <;> first | omega | simp [go_sem]
  have z0 : ∀ j, w0.frozen? ⟨w.heap.size, j, none⟩ = false := by intro j; rw [hw0]; simp [go_sem]
  have hs0 : w.heap.size < w0.heap.size := by rw [hw0]; simp
  rw [← hw0]
  clear hw0 h
  refine (kickOf_any rb a len cap zs k (by omega) _ r0).mono ?_
  rintro e w1 ⟨r, g, a1, b1, a2, b2, rfl, k1, r1⟩
  go_wp2_with fail
  have hs1 : w.heap.size < w1.heap.size := Nat.lt_of_lt_of_le hs0 k1.size
  have hne1 : w1.heap.size ≠ rb := by have := r1.lt; omega
  have hnw : w1.heap.size ≠ w.heap.size := by omega
  obtain ⟨V, hV⟩ : ∃ V, V = w1.alloc (.cells #[.int .i64 r, .int .i64 g] 29) := ⟨_, rfl⟩
  have R : RingIs V.drew rb a len cap zs (k + 4) := by rw [hV]; exact (r1.kept ((Below.refl w1.heap.size w1).alloc (Nat.le_refl _) _).drew)
  have K : RKept rb w0 V.drew := by rw [hV]; exact (k1.alloc _).drew
  have C : KC V.drew w1.heap.size r g := by rw [hV]; exact ⟨by simp [go_sem], by simp [go_sem]⟩
  rw [← hV]
  clear hV k1 r1 r0
  go_region_held3 (fun w' => w'.cell? ⟨w1.heap.size, 0, none⟩ = some (.int .i64 r) ∧ w'.cell? ⟨w1.heap.size, 1, none⟩ = some (.int .i64 g))
    (first
      | exact ⟨KC.c0 (by assumption), KC.c1 (by assumption)⟩
      | exact ⟨KC.c0 (KC.far (KC.far (KC.far (KC.far C3 hnw) hnw) hnw) hnw), KC.c1 (KC.far (KC.far (KC.far (KC.far C3 hnw) hnw) hnw) hnw)⟩)
    (first
      | (go_at_call 17; have _q := r2.lt; clear _q; refine (next_any rb a len cap zs (k + 5) 200 (by omega) (by omega) (by omega) _ r2).mono ?_; rintro e w3 ⟨v3, a3, b3, rfl, k3, r3⟩; have kk := K2.trans k3; have C3 := C2.kept k3 hne1; have cc := fun j hj => (kk.cell (p := ⟨w.heap.size, j, none⟩) hs0 (by simp; omega)).trans (y0 j hj); have ff := fun j => (kk.frozen (p := ⟨w.heap.size, j, none⟩) hs0 (by simp; omega)).trans (z0 j); have c0 := cc 0 (by omega); have c1 := cc 1 (by omega); have c2 := cc 2 (by omega); have c3 := cc 3 (by omega); have f0 := ff 0; have f1 := ff 1; have f2 := ff 2; have f3 := ff 3; clear cc ff)
      | (go_at_call 17; refine (next_any rb a len cap zs (k + 4) 3000 (by omega) (by omega) (by omega) _ R).mono ?_; rintro e w2 ⟨v2, c2a, c2b, rfl, k2, r2⟩; have K2 := K.trans k2; have C2 := C.kept k2 hne1))
  have i1 : IntKind.i64.wrap (r + v2) = r + v2 := IntWalk.i64_in _ (by omega)
  have i2 : IntKind.i64.wrap (g + v3) = g + v3 := IntWalk.i64_in _ (by omega)
  rw [i1, i2]
  have kf : RKept rb w w3 := kw.trans kk
  clear i1 i2 C3 C2 C K2 k2 k3 r2 K R kw kk
  go_wp2_with fail
  refine bodyPost_ret (v := .agg #[.int .i64 r, .int .i64 (r + v2), .int .i64 g, .int .i64 (g + v3)]) (by simp [results, Try.results28, go_sem, c0, c1, c2, c3]) rfl ⟨r, r + v2, g, g + v3, by omega, by omega, by omega, by omega, by omega, by omega, rfl, ?_, ?_⟩
  · exact ((((kf.setCell (.inr (Nat.le_refl _)) _).setCell (.inr (Nat.le_refl _)) _).setCell (.inr (Nat.le_refl _)) _).setCell (.inr (Nat.le_refl _)) _)
  · exact ((((r3.far (by simp; omega) far _).far (by simp; omega) far _).far (by simp; omega) far _).far (by simp; omega) far _)
end Go.Proofs.Ytngcfohmlppghaa
