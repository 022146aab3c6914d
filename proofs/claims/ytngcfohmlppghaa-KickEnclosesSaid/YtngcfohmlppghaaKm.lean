/- The contract of Identify of layer 6. -/
import Derived.Test.YtngcfohmlppghaaKl
import Derived.Test.YtngcfohmlppghaaKh0
import Derived.Test.YtngcfohmlppghaaKg
import Derived.Deep.RegionHeld3
import Derived.Deep.DeepCutAuto
namespace Go.Proofs.Ytngcfohmlppghaa
open Go.RowKit

/-- An influx, as a value. -/
abbrev iv (a b c d e f k : Int) : Array Value := #[.int .i64 a, .int .i64 b, .int .i64 c, .int .i64 d, .int .i64 e, .int .i64 f, .int .i64 k]

set_option maxHeartbeats 800000 in
theorem ident_err (pl ph cl ch gl gh wt dp ar er : Int) (her : (er != 0) = true)
    (h : Aside (∀ w : World, Calls Try.prog 79 #[.agg (xv pl ph cl ch gl gh wt dp ar)] w fun e w' => e = .returned (.int .i64 er) ∧ Below w.heap.size w w')) (w : World) :
    Calls Try.prog 44 #[.agg (xv pl ph cl ch gl gh wt dp ar)] w fun e w' => e = .returned (.tuple #[.agg (iv 0 0 0 0 0 0 0), .int .i64 er]) ∧ Below w.heap.size w w' := by
  go_enter Try.func44, Try.ntmps44
  go_wp2_with (go_at_call 79; refine (h.out _).mono ?_; rintro e w1 ⟨rfl, hb1⟩; obtain ⟨hc1, hz1⟩ := bcell hb1; simp only [World.size_alloc] at hc1 hz1)
  refine bodyPost_ret (v := .tuple #[.agg (iv 0 0 0 0 0 0 0), .int .i64 er]) (by simp [results, Try.results44, go_sem, hc1]) rfl ⟨rfl, ?_⟩
  have this : Below w.heap.size w w1 := bel_trans (by go_grown) hb1
  exact this.setCell (by simp) _ |>.setCell (by simp) _ |>.setCell (by simp) _ |>.setCell (by simp) _ |>.setCell (by simp) _ |>.setCell (by simp) _ |>.setCell (by simp) _

set_option maxHeartbeats 4000000 in
theorem ident_ok (pl ph cl ch gl gh wt dp ar : Int) (h : shutB pl ph cl ch gl gh wt dp ar = true) (hc : ¬ cl < ph) (w : World) :
    Calls Try.prog 44 #[.agg (xv pl ph cl ch gl gh wt dp ar)] w fun e w' =>
      e = .returned (.tuple #[.agg (iv (pl + wt * dp) (ph + wt * dp) (gl / ar) (cdiv gh ar) (wt - cdiv (ch - pl) (gl / ar)) (wt - (cl - ph) / cdiv gh ar) (kindV (wt - cdiv (ch - pl) (gl / ar)) (wt - (cl - ph) / cdiv gh ar))), .int .i64 0]) ∧ Below w.heap.size w w' := by
  have hcs := shut_ok pl ph cl ch gl gh wt dp ar h hc
  have HC : Aside (∀ w : World, Calls Try.prog 79 #[.agg (xv pl ph cl ch gl gh wt dp ar)] w fun e w' => e = .returned (.int .i64 0) ∧ Below w.heap.size w w') := hcs
  clear hcs
  obtain ⟨ar0, ar1, wt0, wt1, dp0, dp1, pl0, pl1, ph1, cl0, cl1, ch1, gl0, gl1, gh1⟩ : 1 ≤ ar ∧ ar ≤ 5000 ∧ 1 ≤ wt ∧ wt ≤ 40000 ∧ 1 ≤ dp ∧ dp ≤ 1048576 ∧ 0 ≤ pl ∧ pl ≤ ph ∧ ph ≤ 68719476736 ∧ 0 ≤ cl ∧ cl ≤ ch ∧ ch ≤ 68719476736 ∧ ar ≤ gl ∧ gl ≤ gh ∧ gh ≤ 1073741824 := by
    simp [shutB, wi, isR] at h
    omega
  clear h
  obtain ⟨m0, m1⟩ := mul_bd (show (0 : Int) ≤ wt by omega) wt1 (show (0 : Int) ≤ dp by omega) dp1
  obtain ⟨hL, EL⟩ : ∃ hL, hL = gl / ar := ⟨_, rfl⟩
  obtain ⟨hH, EH⟩ : ∃ hH, hH = cdiv gh ar := ⟨_, rfl⟩
  have hL0 : 1 ≤ hL := by rw [EL]; exact (Int.le_ediv_iff_mul_le (by omega)).2 (by omega)
  have hL1 : hL ≤ gl := by rw [EL]; exact Int.ediv_le_self _ (by omega)
  have hH0 : 1 ≤ hH := by
    have : (-gh) / ar < 0 := Int.ediv_neg_of_neg_of_pos (by omega) (by omega)
    rw [EH]; unfold cdiv; omega
  have hH1 : hH ≤ gh := by
    rw [EH]; unfold cdiv
    have : -gh ≤ (-gh) / ar := by
      rw [Int.le_ediv_iff_mul_le (by omega)]
      have := Int.mul_le_mul_of_nonneg_left ar0 (show 0 ≤ gh by omega)
      rw [Int.neg_mul]; omega
    omega
  obtain ⟨a, EA⟩ : ∃ a, a = cdiv (ch - pl) hL := ⟨_, rfl⟩
  obtain ⟨b, EB⟩ : ∃ b, b = (cl - ph) / hH := ⟨_, rfl⟩
  have a0 : 0 ≤ a := by
    have : (-(ch - pl)) / hL ≤ 0 := Int.ediv_le_of_le_mul (by omega) (by omega)
    rw [EA]; unfold cdiv; omega
  have a1 : a ≤ ch - pl := by
    rw [EA]; unfold cdiv
    have : -(ch - pl) ≤ (-(ch - pl)) / hL := by
      rw [Int.le_ediv_iff_mul_le (by omega)]
      have := Int.mul_le_mul_of_nonneg_left hL0 (show 0 ≤ ch - pl by omega)
      rw [Int.neg_mul]; omega
    omega
  have b0 : 0 ≤ b := by rw [EB]; exact Int.ediv_nonneg (by omega) (by omega)
  have b1 : b ≤ cl - ph := by rw [EB]; exact Int.ediv_le_self _ (by omega)
  have H : Aside (gl / ar = hL ∧ cdiv gh ar = hH ∧ cdiv (ch - pl) hL = a ∧ (cl - ph) / hH = b) := ⟨EL.symm, EH.symm, EA.symm, EB.symm⟩
  rw [← EL, ← EH, ← EA, ← EB]
  clear EL EH EA EB
  go_enter Try.func44, Try.ntmps44
  go_wp2_with fail
  refine (HC.out _).mono ?_
  rintro e w1 ⟨rfl, hb1⟩
  obtain ⟨hc1, hz1⟩ := bcell hb1
  simp only [World.size_alloc] at hc1 hz1
  have hsz : w.heap.size + 2 ≤ w1.heap.size := by have := hb1.size; simp at this; omega
  have hbw : Below w.heap.size w w1 := bel_trans (by go_grown) hb1
  have q0 : w1.cell? ⟨w.heap.size, 0, none⟩ = some (.int .i64 pl) := (hc1 _ _ (by omega)).trans (by simp [go_sem])
  have q1 : w1.cell? ⟨w.heap.size, 1, none⟩ = some (.int .i64 ph) := (hc1 _ _ (by omega)).trans (by simp [go_sem])
  have q2 : w1.cell? ⟨w.heap.size, 2, none⟩ = some (.int .i64 cl) := (hc1 _ _ (by omega)).trans (by simp [go_sem])
  have q3 : w1.cell? ⟨w.heap.size, 3, none⟩ = some (.int .i64 ch) := (hc1 _ _ (by omega)).trans (by simp [go_sem])
  have q4 : w1.cell? ⟨w.heap.size, 4, none⟩ = some (.int .i64 gl) := (hc1 _ _ (by omega)).trans (by simp [go_sem])
  have q5 : w1.cell? ⟨w.heap.size, 5, none⟩ = some (.int .i64 gh) := (hc1 _ _ (by omega)).trans (by simp [go_sem])
  have q6 : w1.cell? ⟨w.heap.size, 6, none⟩ = some (.int .i64 wt) := (hc1 _ _ (by omega)).trans (by simp [go_sem])
  have q7 : w1.cell? ⟨w.heap.size, 7, none⟩ = some (.int .i64 dp) := (hc1 _ _ (by omega)).trans (by simp [go_sem])
  have q8 : w1.cell? ⟨w.heap.size, 8, none⟩ = some (.int .i64 ar) := (hc1 _ _ (by omega)).trans (by simp [go_sem])
  have r0 : ∀ j, j < 7 → w1.cell? ⟨w.heap.size + 1, j, none⟩ = some (.int .i64 0) := fun j hj => by
    rw [hc1 _ _ (by omega)]
    have : j = 0 ∨ j = 1 ∨ j = 2 ∨ j = 3 ∨ j = 4 ∨ j = 5 ∨ j = 6 := by omega
    rcases this with rfl | rfl | rfl | rfl | rfl | rfl | rfl <;> simp [go_sem]
  have rf : ∀ j, w1.frozen? ⟨w.heap.size + 1, j, none⟩ = false := fun j => by
    rw [hz1 _ _ (by omega)]; simp [go_sem]
  have R0 : Aside ((∀ j, j < 7 → w1.cell? ⟨w.heap.size + 1, j, none⟩ = some (.int .i64 0)) ∧ ∀ j, w1.frozen? ⟨w.heap.size + 1, j, none⟩ = false) := ⟨r0, rf⟩
  clear hc1 hz1 hb1 r0 rf
  go_wp2_with fail
  obtain ⟨H1, H2, H3, H4⟩ := H.out
  have e1 := World.new_ne w1 _ q4
  have g1 : -4611686018427387904 ≤ gl ∧ gl ≤ 4611686018427387904 := by omega
  have g2 : -4611686018427387904 ≤ gh ∧ gh ≤ 4611686018427387904 := by omega
  go_cut [6] (fun s6 wx => s6 = .pointer (some ⟨w1.heap.size, 0, none⟩) ∧ wx = (w1.alloc (.cells #[.int .i64 hL, .int .i64 hH] 54)).drew)
  case first =>
    go_region_held3 (fun w' => w'.cell? ⟨w.heap.size, 4, none⟩ = some (.int .i64 gl) ∧ w'.cell? ⟨w.heap.size, 5, none⟩ = some (.int .i64 gh) ∧ w'.cell? ⟨w.heap.size, 8, none⟩ = some (.int .i64 ar)) (go_keep)
      (first
        | (go_at_call 80; refine (down_any gl ar g1.1 g1.2 (by omega) (by omega) _).mono ?_; rw [H1]; rintro e w' ⟨rfl, rfl⟩)
        | (go_at_call 81; refine (up_any gh ar g2.1 g2.2 (by omega) (by omega) _).mono ?_; rw [H2]; rintro e w' ⟨rfl, rfl⟩))
    all_goals (go_wp2_with fail; go_meet; exact ⟨rfl, rfl⟩)
  obtain ⟨rfl, hwc⟩ := hcut
  obtain ⟨W2, rfl⟩ : ∃ W : World, W = wc := ⟨_, rfl⟩
  have hb2 : Below w1.heap.size w1 W2 := by rw [hwc]; exact ((Below.refl _ _).alloc (Nat.le_refl _) _).drew
  have hs2 : w1.heap.size < W2.heap.size := by rw [hwc]; simp
  have l0 : W2.cell? ⟨w1.heap.size, 0, none⟩ = some (.int .i64 hL) := by rw [hwc]; simp [go_sem]
  have l1 : W2.cell? ⟨w1.heap.size, 1, none⟩ = some (.int .i64 hH) := by rw [hwc]; simp [go_sem]
  have hlt : w.heap.size < w1.heap.size := by omega
  have p0 : W2.cell? ⟨w.heap.size, 0, none⟩ = some (.int .i64 pl) := (hb2.cell (p := ⟨_, _, _⟩) hlt).trans q0
  have p1 : W2.cell? ⟨w.heap.size, 1, none⟩ = some (.int .i64 ph) := (hb2.cell (p := ⟨_, _, _⟩) hlt).trans q1
  have p2 : W2.cell? ⟨w.heap.size, 2, none⟩ = some (.int .i64 cl) := (hb2.cell (p := ⟨_, _, _⟩) hlt).trans q2
  have p3 : W2.cell? ⟨w.heap.size, 3, none⟩ = some (.int .i64 ch) := (hb2.cell (p := ⟨_, _, _⟩) hlt).trans q3
  have p6 : W2.cell? ⟨w.heap.size, 6, none⟩ = some (.int .i64 wt) := (hb2.cell (p := ⟨_, _, _⟩) hlt).trans q6
  clear hwc q2 q3 q4 q5 q6 q7 q8 e1 g1 g2 H1 H2
  have e2 := World.new_ne W2 _ p0
  have e3 := World.new_ne W2 _ l0
  have g1 : -4611686018427387904 ≤ ch - pl ∧ ch - pl ≤ 4611686018427387904 := by omega
  have g2 : -4611686018427387904 ≤ cl - ph ∧ cl - ph ≤ 4611686018427387904 := by omega
  have i1 : IntKind.i64.wrap (ch - pl) = ch - pl := IntWalk.i64_in _ (by omega)
  have i2 : IntKind.i64.wrap (cl - ph) = cl - ph := IntWalk.i64_in _ (by omega)
  have i3 : IntKind.i64.wrap (wt - a) = wt - a := IntWalk.i64_in _ (by omega)
  have i4 : IntKind.i64.wrap (wt - b) = wt - b := IntWalk.i64_in _ (by omega)
  go_wp2_with fail
  go_cut [7] (fun s7 wx => s7 = .pointer (some ⟨W2.heap.size, 0, none⟩) ∧ wx = (W2.alloc (.cells #[.int .i64 (wt - a), .int .i64 (wt - b)] 54)).drew)
  case first =>
    go_region_held3 (fun w' => w'.cell? ⟨w.heap.size, 0, none⟩ = some (.int .i64 pl) ∧ w'.cell? ⟨w.heap.size, 1, none⟩ = some (.int .i64 ph) ∧ w'.cell? ⟨w.heap.size, 2, none⟩ = some (.int .i64 cl) ∧ w'.cell? ⟨w.heap.size, 3, none⟩ = some (.int .i64 ch) ∧ w'.cell? ⟨w.heap.size, 6, none⟩ = some (.int .i64 wt) ∧ w'.cell? ⟨w1.heap.size, 0, none⟩ = some (.int .i64 hL) ∧ w'.cell? ⟨w1.heap.size, 1, none⟩ = some (.int .i64 hH)) (go_keep)
      (first
        | (go_at_call 80; refine (down_any (cl - ph) hH g2.1 g2.2 (by omega) (by omega) _).mono ?_; rw [H4]; rintro e w' ⟨rfl, rfl⟩)
        | (go_at_call 81; refine (up_any (ch - pl) hL g1.1 g1.2 (by omega) (by omega) _).mono ?_; rw [H3]; rintro e w' ⟨rfl, rfl⟩))
    all_goals (go_wp2_with fail; go_meet; exact ⟨rfl, rfl⟩)
  obtain ⟨rfl, hwc⟩ := hcut
  clear i1 i2 i3 i4
  obtain ⟨W3, rfl⟩ : ∃ W : World, W = wc := ⟨_, rfl⟩
  have hb3 : Below W2.heap.size W2 W3 := by rw [hwc]; exact ((Below.refl _ _).alloc (Nat.le_refl _) _).drew
  have hs3 : W2.heap.size < W3.heap.size := by rw [hwc]; simp
  have m0' : W3.cell? ⟨W2.heap.size, 0, none⟩ = some (.int .i64 (wt - a)) := by rw [hwc]; simp [go_sem]
  have m1' : W3.cell? ⟨W2.heap.size, 1, none⟩ = some (.int .i64 (wt - b)) := by rw [hwc]; simp [go_sem]
  have t0 : W3.cell? ⟨w.heap.size, 0, none⟩ = some (.int .i64 pl) := (hb3.cell (p := ⟨_, _, _⟩) (by simp; omega)).trans p0
  have t1 : W3.cell? ⟨w.heap.size, 1, none⟩ = some (.int .i64 ph) := (hb3.cell (p := ⟨_, _, _⟩) (by simp; omega)).trans p1
  have n0 : W3.cell? ⟨w1.heap.size, 0, none⟩ = some (.int .i64 hL) := (hb3.cell (p := ⟨_, _, _⟩) (by simp; omega)).trans l0
  have n1 : W3.cell? ⟨w1.heap.size, 1, none⟩ = some (.int .i64 hH) := (hb3.cell (p := ⟨_, _, _⟩) (by simp; omega)).trans l1
  have hbw3 : Below w1.heap.size w1 W3 := hb2.trans (hb3.mono (by omega))
  have hX : ∀ x : Addr, x.block < w1.heap.size → W3.cell? x = w1.cell? x := fun x hx => hbw3.cell hx
  have hY : ∀ x : Addr, x.block < w1.heap.size → W3.frozen? x = w1.frozen? x := fun x hx => hbw3.frozen hx
  have u0 : W3.cell? ⟨w.heap.size + 1, 0, none⟩ = some (.int .i64 0) := by rw [hX ⟨w.heap.size + 1, 0, none⟩ (by simp; omega)]; exact R0.out.1 0 (by omega)
  have v0 : W3.frozen? ⟨w.heap.size + 1, 0, none⟩ = false := by rw [hY ⟨w.heap.size + 1, 0, none⟩ (by simp; omega)]; exact R0.out.2 0
  have u1 : W3.cell? ⟨w.heap.size + 1, 1, none⟩ = some (.int .i64 0) := by rw [hX ⟨w.heap.size + 1, 1, none⟩ (by simp; omega)]; exact R0.out.1 1 (by omega)
  have v1 : W3.frozen? ⟨w.heap.size + 1, 1, none⟩ = false := by rw [hY ⟨w.heap.size + 1, 1, none⟩ (by simp; omega)]; exact R0.out.2 1
  have u2 : W3.cell? ⟨w.heap.size + 1, 2, none⟩ = some (.int .i64 0) := by rw [hX ⟨w.heap.size + 1, 2, none⟩ (by simp; omega)]; exact R0.out.1 2 (by omega)
  have v2 : W3.frozen? ⟨w.heap.size + 1, 2, none⟩ = false := by rw [hY ⟨w.heap.size + 1, 2, none⟩ (by simp; omega)]; exact R0.out.2 2
  have u3 : W3.cell? ⟨w.heap.size + 1, 3, none⟩ = some (.int .i64 0) := by rw [hX ⟨w.heap.size + 1, 3, none⟩ (by simp; omega)]; exact R0.out.1 3 (by omega)
  have v3 : W3.frozen? ⟨w.heap.size + 1, 3, none⟩ = false := by rw [hY ⟨w.heap.size + 1, 3, none⟩ (by simp; omega)]; exact R0.out.2 3
  have u4 : W3.cell? ⟨w.heap.size + 1, 4, none⟩ = some (.int .i64 0) := by rw [hX ⟨w.heap.size + 1, 4, none⟩ (by simp; omega)]; exact R0.out.1 4 (by omega)
  have v4 : W3.frozen? ⟨w.heap.size + 1, 4, none⟩ = false := by rw [hY ⟨w.heap.size + 1, 4, none⟩ (by simp; omega)]; exact R0.out.2 4
  have u5 : W3.cell? ⟨w.heap.size + 1, 5, none⟩ = some (.int .i64 0) := by rw [hX ⟨w.heap.size + 1, 5, none⟩ (by simp; omega)]; exact R0.out.1 5 (by omega)
  have v5 : W3.frozen? ⟨w.heap.size + 1, 5, none⟩ = false := by rw [hY ⟨w.heap.size + 1, 5, none⟩ (by simp; omega)]; exact R0.out.2 5
  have u6 : W3.cell? ⟨w.heap.size + 1, 6, none⟩ = some (.int .i64 0) := by rw [hX ⟨w.heap.size + 1, 6, none⟩ (by simp; omega)]; exact R0.out.1 6 (by omega)
  have v6 : W3.frozen? ⟨w.heap.size + 1, 6, none⟩ = false := by rw [hY ⟨w.heap.size + 1, 6, none⟩ (by simp; omega)]; exact R0.out.2 6
  clear hwc p0 p1 p2 p3 p6 l0 l1 e2 e3 g1 g2 H3 H4 hX hY q0 q1 hb2 hb3
  have i5 : IntKind.i64.wrap (pl + wt * dp) = pl + wt * dp := IntWalk.i64_in _ (by omega)
  have i6 : IntKind.i64.wrap (ph + wt * dp) = ph + wt * dp := IntWalk.i64_in _ (by omega)
  have U0 : ∀ j, j < 7 → W3.cell? ⟨w.heap.size + 1, j, none⟩ = some (.int .i64 0) := fun j hj => (hbw3.cell (p := ⟨w.heap.size + 1, j, none⟩) (by simp; omega)).trans (R0.out.1 j hj)
  have U0' : Aside (∀ j, j < 7 → W3.cell? ⟨w.heap.size + 1, j, none⟩ = some (.int .i64 0)) := U0
  clear U0
  have e4 := World.new_ne W3 _ t0
  have e5 := World.new_ne W3 _ n0
  have e6 := World.new_ne W3 _ m0'
  have e7 : w.heap.size + 1 < W3.heap.size := by omega
  have e8 : w.heap.size + 1 ≠ w1.heap.size := by omega
  have e9 : w.heap.size + 1 ≠ W2.heap.size := by omega
  go_wp2_with fail
  go_region_held3 (fun w' => w'.cell? ⟨w.heap.size, 0, none⟩ = some (.int .i64 pl) ∧ w'.cell? ⟨w.heap.size, 1, none⟩ = some (.int .i64 ph) ∧ w'.cell? ⟨w1.heap.size, 0, none⟩ = some (.int .i64 hL) ∧ w'.cell? ⟨w1.heap.size, 1, none⟩ = some (.int .i64 hH) ∧ w'.cell? ⟨W2.heap.size, 0, none⟩ = some (.int .i64 (wt - a)) ∧ w'.cell? ⟨W2.heap.size, 1, none⟩ = some (.int .i64 (wt - b))) (go_keep)
    ((go_at_call 82; refine (kindOf_any (wt - a) (wt - b) _).mono ?_; rintro e w' ⟨rfl, rfl⟩))
  obtain ⟨W4, hW4⟩ : ∃ W4 : World, ((((((((W3.setCell ⟨w.heap.size + 1, 0, none⟩ (.int .i64 (pl + wt * dp))).setCell ⟨w.heap.size + 1, 1, none⟩ (.int .i64 (ph + wt * dp))).setCell ⟨w.heap.size + 1, 2, none⟩ (.int .i64 (hL))).setCell ⟨w.heap.size + 1, 3, none⟩ (.int .i64 (hH))).setCell ⟨w.heap.size + 1, 4, none⟩ (.int .i64 (wt - a))).setCell ⟨w.heap.size + 1, 5, none⟩ (.int .i64 (wt - b))).setCell ⟨w.heap.size + 1, 6, none⟩ (.int .i64 (kindV (wt - a) (wt - b)))).alloc (.cells #[.int .i64 (wt - a), .int .i64 (wt - b)] 54)).drew = W4 := ⟨_, rfl⟩
  have hbE : Below w.heap.size w W3 := hbw.trans (hbw3.mono (by omega))
  have hb4 : Below w.heap.size w W4 := by
    rw [← hW4]
    exact ((((((((hbE.setCell (by simp) _).setCell (by simp) _).setCell (by simp) _).setCell (by simp) _).setCell (by simp) _).setCell (by simp) _).setCell (by simp) _).alloc (by simp; omega) _).drew
  have hrow := ((((((((show RowN W3 (w.heap.size + 1) 7 (fun _ => 0) from fun j hj => U0'.out j hj).set (show 0 < 7 by omega) (pl + wt * dp)).set (show 1 < 7 by omega) (ph + wt * dp)).set (show 2 < 7 by omega) (hL)).set (show 3 < 7 by omega) (hH)).set (show 4 < 7 by omega) (wt - a)).set (show 5 < 7 by omega) (wt - b)).set (show 6 < 7 by omega) (kindV (wt - a) (wt - b)))
  have z0 : W4.cell? ⟨w.heap.size + 1, 0, none⟩ = some (.int .i64 (pl + wt * dp)) := by
    rw [← hW4, World.cell?_drew, World.cell?_alloc_past _ _ _ (by simp; omega)]
    exact (hrow 0 (by omega)).trans (by simp [upd])
  have z1 : W4.cell? ⟨w.heap.size + 1, 1, none⟩ = some (.int .i64 (ph + wt * dp)) := by
    rw [← hW4, World.cell?_drew, World.cell?_alloc_past _ _ _ (by simp; omega)]
    exact (hrow 1 (by omega)).trans (by simp [upd])
  have z2 : W4.cell? ⟨w.heap.size + 1, 2, none⟩ = some (.int .i64 (hL)) := by
    rw [← hW4, World.cell?_drew, World.cell?_alloc_past _ _ _ (by simp; omega)]
    exact (hrow 2 (by omega)).trans (by simp [upd])
  have z3 : W4.cell? ⟨w.heap.size + 1, 3, none⟩ = some (.int .i64 (hH)) := by
    rw [← hW4, World.cell?_drew, World.cell?_alloc_past _ _ _ (by simp; omega)]
    exact (hrow 3 (by omega)).trans (by simp [upd])
  have z4 : W4.cell? ⟨w.heap.size + 1, 4, none⟩ = some (.int .i64 (wt - a)) := by
    rw [← hW4, World.cell?_drew, World.cell?_alloc_past _ _ _ (by simp; omega)]
    exact (hrow 4 (by omega)).trans (by simp [upd])
  have z5 : W4.cell? ⟨w.heap.size + 1, 5, none⟩ = some (.int .i64 (wt - b)) := by
    rw [← hW4, World.cell?_drew, World.cell?_alloc_past _ _ _ (by simp; omega)]
    exact (hrow 5 (by omega)).trans (by simp [upd])
  have z6 : W4.cell? ⟨w.heap.size + 1, 6, none⟩ = some (.int .i64 (kindV (wt - a) (wt - b))) := by
    rw [← hW4, World.cell?_drew, World.cell?_alloc_past _ _ _ (by simp; omega)]
    exact (hrow 6 (by omega)).trans (by simp [upd])
  rw [hW4]
  clear hW4 hbE hrow u0 v0 u1 v1 u2 v2 u3 v3 u4 v4 u5 v5 u6 v6 e4 e5 e6 e7 e8 e9 n0 n1 t0 t1 m0' m1' U0' i5 i6 hbw3 hbw R0
  go_wp2
  refine bodyPost_ret (v := .tuple #[.agg (iv (pl + wt * dp) (ph + wt * dp) hL hH (wt - a) (wt - b) (kindV (wt - a) (wt - b))), .int .i64 0]) (by simp [results, Try.results44, go_sem, z0, z1, z2, z3, z4, z5, z6]) rfl ⟨rfl, hb4⟩
end Go.Proofs.Ytngcfohmlppghaa
