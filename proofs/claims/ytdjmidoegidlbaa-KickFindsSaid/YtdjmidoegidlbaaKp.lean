/- The contract of the reference's Identify: the same influx as the program's. -/
import Derived.Test.YtdjmidoegidlbaaKo
namespace Go.Proofs.Ytdjmidoegidlbaa
open Go.RowKit

set_option maxRecDepth 100000 in
set_option maxHeartbeats 800000 in
theorem rident_err (pl ph cl ch gl gh wt dp ar er : Int) (her : (er != 0) = true)
    (h : Aside (∀ w : World, Calls Try.prog 74 #[.agg (xv pl ph cl ch gl gh wt dp ar)] w fun e w' => e = .returned (.int .i64 er) ∧ Below w.heap.size w w')) (w : World) :
    Calls Try.prog 47 #[.agg (xv pl ph cl ch gl gh wt dp ar)] w fun e w' => e = .returned (.tuple #[.agg (iv 0 0 0 0 0 0 0), .int .i64 er]) ∧ Below w.heap.size w w' := by
  go_enter Try.func47, Try.ntmps47
  go_wp2_with (go_at_call 74; refine (h.out _).mono ?_; rintro e w1 ⟨rfl, hb1⟩; obtain ⟨hc1, hz1⟩ := bcell hb1; simp only [World.size_alloc] at hc1 hz1)
  refine bodyPost_ret (v := .tuple #[.agg (iv 0 0 0 0 0 0 0), .int .i64 er]) (by simp [results, Try.results47, go_sem, hc1]) rfl ⟨rfl, ?_⟩
  have this : Below w.heap.size w w1 := bel_trans (by go_grown) hb1
  exact this.setCell (by simp) _ |>.setCell (by simp) _ |>.setCell (by simp) _ |>.setCell (by simp) _ |>.setCell (by simp) _ |>.setCell (by simp) _ |>.setCell (by simp) _

/-- The cells of an influx before its weight is known. -/
def ov (a b c d : Int) : Nat → Int := fun j => if j = 0 then a else if j = 1 then b else if j = 2 then c else if j = 3 then d else if j = 4 then 0 else if j = 5 then 0 else 4
set_option maxRecDepth 100000 in
set_option maxHeartbeats 4000000 in
theorem rident_ok (pl ph cl ch gl gh wt dp ar : Int) (h : shutB pl ph cl ch gl gh wt dp ar = true) (hc : ¬ cl < ph) (w : World) :
    Calls Try.prog 47 #[.agg (xv pl ph cl ch gl gh wt dp ar)] w fun e w' =>
      e = .returned (.tuple #[.agg (iv (pl + wt * dp) (ph + wt * dp) (gl / ar) (cdiv gh ar) (wt - cdiv (ch - pl) (gl / ar)) (wt - (cl - ph) / cdiv gh ar) (kindV (wt - cdiv (ch - pl) (gl / ar)) (wt - (cl - ph) / cdiv gh ar))), .int .i64 0]) ∧ Below w.heap.size w w' := by
  have hcs := rshut_ok pl ph cl ch gl gh wt dp ar h hc
  have HC : Aside (∀ w : World, Calls Try.prog 74 #[.agg (xv pl ph cl ch gl gh wt dp ar)] w fun e w' => e = .returned (.int .i64 0) ∧ Below w.heap.size w w') := hcs
  clear hcs
  obtain ⟨ar0, ar1, wt0, wt1, dp0, dp1, pl0, pl1, ph1, cl0, cl1, ch1, gl0, gl1, gh1⟩ : 1 ≤ ar ∧ ar ≤ 5000 ∧ 1 ≤ wt ∧ wt ≤ 40000 ∧ 1 ≤ dp ∧ dp ≤ 1048576 ∧ 0 ≤ pl ∧ pl ≤ ph ∧ ph ≤ 68719476736 ∧ 0 ≤ cl ∧ cl ≤ ch ∧ ch ≤ 68719476736 ∧ ar ≤ gl ∧ gl ≤ gh ∧ gh ≤ 1073741824 := by
    simp [shutB, wi, isR] at h
    omega
  clear h
  obtain ⟨m0, m1⟩ := mul_bd (show (0 : Int) ≤ wt by omega) wt1 (show (0 : Int) ≤ dp by omega) dp1
  obtain ⟨hL, EL⟩ : ∃ hL, hL = gl / ar := ⟨_, rfl⟩
  obtain ⟨hH, EH⟩ : ∃ hH, hH = cdiv gh ar := ⟨_, rfl⟩
  have hL0 : 1 ≤ hL := by rw [EL]; exact (Int.le_ediv_iff_mul_le (by omega)).2 (by omega)
  have hL1 : hL ≤ gl := by rw [EL]; exact Int.ediv_le_self _ (by omega)
  have hH0 : 1 ≤ hH := by
    have : (-gh) / ar < 0 := Int.ediv_neg_of_neg_of_pos (by omega) (by omega)
    rw [EH]; unfold cdiv; omega
  have hH1 : hH ≤ gh := by
    rw [EH]; unfold cdiv
    have : -gh ≤ (-gh) / ar := by
      rw [Int.le_ediv_iff_mul_le (by omega)]
      have := Int.mul_le_mul_of_nonneg_left ar0 (show 0 ≤ gh by omega)
      rw [Int.neg_mul]; omega
    omega
  obtain ⟨a, EA⟩ : ∃ a, a = cdiv (ch - pl) hL := ⟨_, rfl⟩
  obtain ⟨b, EB⟩ : ∃ b, b = (cl - ph) / hH := ⟨_, rfl⟩
  have a0 : 0 ≤ a := by
    have : (-(ch - pl)) / hL ≤ 0 := Int.ediv_le_of_le_mul (by omega) (by omega)
    rw [EA]; unfold cdiv; omega
  have a1 : a ≤ ch - pl := by
    rw [EA]; unfold cdiv
    have : -(ch - pl) ≤ (-(ch - pl)) / hL := by
      rw [Int.le_ediv_iff_mul_le (by omega)]
      have := Int.mul_le_mul_of_nonneg_left hL0 (show 0 ≤ ch - pl by omega)
      rw [Int.neg_mul]; omega
    omega
  have b0 : 0 ≤ b := by rw [EB]; exact Int.ediv_nonneg (by omega) (by omega)
  have b1 : b ≤ cl - ph := by rw [EB]; exact Int.ediv_le_self _ (by omega)
  have H : Aside (gl / ar = hL ∧ cdiv gh ar = hH ∧ cdiv (ch - pl) hL = a ∧ (cl - ph) / hH = b) := ⟨EL.symm, EH.symm, EA.symm, EB.symm⟩
  rw [← EL, ← EH, ← EA, ← EB]
  clear EL EH EA EB
  go_enter Try.func47, Try.ntmps47
  go_wp2_with fail
  refine (HC.out _).mono ?_
  rintro e w1 ⟨rfl, hb1⟩
  obtain ⟨hc1, hz1⟩ := bcell hb1
  simp only [World.size_alloc] at hc1 hz1
  have hsz : w.heap.size + 2 ≤ w1.heap.size := by have := hb1.size; simp at this; omega
  have hbw : Below w.heap.size w w1 := bel_trans (by go_grown) hb1
  have q0 : w1.cell? ⟨w.heap.size, 0, none⟩ = some (.int .i64 pl) := (hc1 _ _ (by omega)).trans (by simp [go_sem])
  have q1 : w1.cell? ⟨w.heap.size, 1, none⟩ = some (.int .i64 ph) := (hc1 _ _ (by omega)).trans (by simp [go_sem])
  have q2 : w1.cell? ⟨w.heap.size, 2, none⟩ = some (.int .i64 cl) := (hc1 _ _ (by omega)).trans (by simp [go_sem])
  have q3 : w1.cell? ⟨w.heap.size, 3, none⟩ = some (.int .i64 ch) := (hc1 _ _ (by omega)).trans (by simp [go_sem])
  have q4 : w1.cell? ⟨w.heap.size, 4, none⟩ = some (.int .i64 gl) := (hc1 _ _ (by omega)).trans (by simp [go_sem])
  have q5 : w1.cell? ⟨w.heap.size, 5, none⟩ = some (.int .i64 gh) := (hc1 _ _ (by omega)).trans (by simp [go_sem])
  have q6 : w1.cell? ⟨w.heap.size, 6, none⟩ = some (.int .i64 wt) := (hc1 _ _ (by omega)).trans (by simp [go_sem])
  have q7 : w1.cell? ⟨w.heap.size, 7, none⟩ = some (.int .i64 dp) := (hc1 _ _ (by omega)).trans (by simp [go_sem])
  have q8 : w1.cell? ⟨w.heap.size, 8, none⟩ = some (.int .i64 ar) := (hc1 _ _ (by omega)).trans (by simp [go_sem])
  have r0 : ∀ j, j < 7 → w1.cell? ⟨w.heap.size + 1, j, none⟩ = some (.int .i64 0) := fun j hj => by
    rw [hc1 _ _ (by omega)]
    have : j = 0 ∨ j = 1 ∨ j = 2 ∨ j = 3 ∨ j = 4 ∨ j = 5 ∨ j = 6 := by omega
    rcases this with rfl | rfl | rfl | rfl | rfl | rfl | rfl <;> simp [go_sem]
  have rf : ∀ j, w1.frozen? ⟨w.heap.size + 1, j, none⟩ = false := fun j => by
    rw [hz1 _ _ (by omega)]; simp [go_sem]
  have R0 : Aside ((∀ j, j < 7 → w1.cell? ⟨w.heap.size + 1, j, none⟩ = some (.int .i64 0)) ∧ ∀ j, w1.frozen? ⟨w.heap.size + 1, j, none⟩ = false) := ⟨r0, rf⟩
  clear hc1 hz1 hb1 r0 rf
  go_wp2_with fail
  obtain ⟨H1, H2, H3, H4⟩ := H.out
  have H2' : (-gh) / ar = -hH := by rw [← H2]; unfold cdiv; omega
  have H3' : (pl - ch) / hL = -a := by rw [← H3]; unfold cdiv; rw [show -(ch - pl) = pl - ch by omega]; omega
  have e1 := World.new_ne w1 _ q4
  have g1 : -4611686018427387904 ≤ gl ∧ gl ≤ 4611686018427387904 := by omega
  have g2 : -4611686018427387904 ≤ -gh ∧ -gh ≤ 4611686018427387904 := by omega
  have i1 : IntKind.i64.wrap (pl + wt * dp) = pl + wt * dp := IntWalk.i64_in _ (by omega)
  have i2 : IntKind.i64.wrap (ph + wt * dp) = ph + wt * dp := IntWalk.i64_in _ (by omega)
  have i3 : IntKind.i64.wrap (-gh) = -gh := IntWalk.i64_in _ (by omega)
  have i4 : IntKind.i64.wrap hH = hH := IntWalk.i64_in _ (by omega)
  go_cut [6] (fun s6 wx => s6 = .pointer (some ⟨w1.heap.size, 0, none⟩) ∧ wx = (w1.alloc (.cells (iv (pl + wt * dp) (ph + wt * dp) hL hH 0 0 4) 72)).drew)
  case first =>
    go_region_held3 (fun w' => w'.cell? ⟨w.heap.size, 0, none⟩ = some (.int .i64 pl) ∧ w'.cell? ⟨w.heap.size, 1, none⟩ = some (.int .i64 ph) ∧ w'.cell? ⟨w.heap.size, 4, none⟩ = some (.int .i64 gl) ∧ w'.cell? ⟨w.heap.size, 5, none⟩ = some (.int .i64 gh) ∧ w'.cell? ⟨w.heap.size, 8, none⟩ = some (.int .i64 ar)) (go_keep)
      (first
        | (go_at_call_of 75 (Value.int IntKind.i64 gl); refine (floor_any gl ar g1.1 g1.2 (by omega) (by omega) _).mono ?_; rw [H1]; rintro e w' ⟨rfl, rfl⟩)
        | (go_at_call 75; refine (floor_any (-gh) ar g2.1 g2.2 (by omega) (by omega) _).mono ?_; rw [H2']; rintro e w' ⟨rfl, rfl⟩))
    all_goals (go_wp2_with fail; go_meet; exact ⟨rfl, rfl⟩)
  obtain ⟨rfl, hwc⟩ := hcut
  obtain ⟨W2, rfl⟩ : ∃ W : World, W = wc := ⟨_, rfl⟩
  have hb2 : Below w1.heap.size w1 W2 := by rw [hwc]; exact ((Below.refl _ _).alloc (Nat.le_refl _) _).drew
  have hs2 : w1.heap.size < W2.heap.size := by rw [hwc]; simp
  have hlt : w.heap.size < w1.heap.size := by omega
  have O2 : ∀ j x, (iv (pl + wt * dp) (ph + wt * dp) hL hH 0 0 4)[j]? = some x → W2.cell? ⟨w1.heap.size, j, none⟩ = some x := by
    intro j x hx
    rw [hwc, World.cell?_drew, World.cell?_alloc_at _ _ _ _ rfl]
    exact hx
  have F2 : ∀ j, W2.frozen? ⟨w1.heap.size, j, none⟩ = false := fun j => by rw [hwc]; simp [go_sem]
  have o0 := O2 0 _ rfl
  have o1 := O2 1 _ rfl
  have o2 := O2 2 _ rfl
  have o3 := O2 3 _ rfl
  have o4 := O2 4 _ rfl
  have o5 := O2 5 _ rfl
  have o6 := O2 6 _ rfl
  have f4 := F2 4
  have f5 := F2 5
  have p0 : W2.cell? ⟨w.heap.size, 0, none⟩ = some (.int .i64 pl) := (hb2.cell (p := ⟨_, _, _⟩) hlt).trans q0
  have p1 : W2.cell? ⟨w.heap.size, 1, none⟩ = some (.int .i64 ph) := (hb2.cell (p := ⟨_, _, _⟩) hlt).trans q1
  have p2 : W2.cell? ⟨w.heap.size, 2, none⟩ = some (.int .i64 cl) := (hb2.cell (p := ⟨_, _, _⟩) hlt).trans q2
  have p3 : W2.cell? ⟨w.heap.size, 3, none⟩ = some (.int .i64 ch) := (hb2.cell (p := ⟨_, _, _⟩) hlt).trans q3
  have p6 : W2.cell? ⟨w.heap.size, 6, none⟩ = some (.int .i64 wt) := (hb2.cell (p := ⟨_, _, _⟩) hlt).trans q6
  have FF : Aside (∀ j, W2.frozen? ⟨w1.heap.size, j, none⟩ = false) := F2
  clear hwc q0 q1 q2 q3 q4 q5 q6 q7 q8 e1 g1 g2 H1 H2 H2' H3 O2 F2 i1 i2 i3 i4
  have n1 : w1.heap.size ≠ w.heap.size := by omega
  have n2 : w.heap.size ≠ w1.heap.size := by omega
  have g1 : -4611686018427387904 ≤ pl - ch ∧ pl - ch ≤ 4611686018427387904 := by omega
  have g2 : -4611686018427387904 ≤ cl - ph ∧ cl - ph ≤ 4611686018427387904 := by omega
  have i1 : IntKind.i64.wrap (pl - ch) = pl - ch := IntWalk.i64_in _ (by omega)
  have i2 : IntKind.i64.wrap (cl - ph) = cl - ph := IntWalk.i64_in _ (by omega)
  have i3 : IntKind.i64.wrap (wt + -a) = wt - a := by rw [IntWalk.i64_in _ (by omega)]; omega
  have i4 : IntKind.i64.wrap (wt - b) = wt - b := IntWalk.i64_in _ (by omega)
  go_wp2_with fail
  go_cut [] (fun wx => wx = ((W2.setCell ⟨w1.heap.size, 4, none⟩ (.int .i64 (wt - a))).setCell ⟨w1.heap.size, 5, none⟩ (.int .i64 (wt - b))).drew)
  case first =>
    go_region_held3 (fun w' => w'.cell? ⟨w.heap.size, 0, none⟩ = some (.int .i64 pl) ∧ w'.cell? ⟨w.heap.size, 1, none⟩ = some (.int .i64 ph) ∧ w'.cell? ⟨w.heap.size, 2, none⟩ = some (.int .i64 cl) ∧ w'.cell? ⟨w.heap.size, 3, none⟩ = some (.int .i64 ch) ∧ w'.cell? ⟨w.heap.size, 6, none⟩ = some (.int .i64 wt) ∧ w'.cell? ⟨w1.heap.size, 2, none⟩ = some (.int .i64 hL) ∧ w'.cell? ⟨w1.heap.size, 3, none⟩ = some (.int .i64 hH)) (simp [*, World.cell?_setCell_far, World.cell?_setCell_other])
      (first
        | (go_at_call_of 75 (Value.int IntKind.i64 hL); refine (floor_any (pl - ch) hL g1.1 g1.2 (by omega) (by omega) _).mono ?_; rw [H3']; rintro e w' ⟨rfl, rfl⟩)
        | (go_at_call 75; refine (floor_any (cl - ph) hH g2.1 g2.2 (by omega) (by omega) _).mono ?_; rw [H4]; rintro e w' ⟨rfl, rfl⟩))
    all_goals (go_wp2_with fail; go_meet; rfl)
  have hwc : wc = ((W2.setCell ⟨w1.heap.size, 4, none⟩ (.int .i64 (wt - a))).setCell ⟨w1.heap.size, 5, none⟩ (.int .i64 (wt - b))).drew := hcut
  clear hcut
  obtain ⟨W3, rfl⟩ : ∃ W : World, W = wc := ⟨_, rfl⟩
  have hb3 : Below w1.heap.size W2 W3 := by rw [hwc]; exact (((Below.refl _ _).setCell (by simp) _).setCell (by simp) _).drew
  have hbw3 : Below w1.heap.size w1 W3 := hb2.trans hb3
  have hrow := ((show RowN W2 w1.heap.size 7 (ov (pl + wt * dp) (ph + wt * dp) hL hH) from fun j hj => by
    have : j = 0 ∨ j = 1 ∨ j = 2 ∨ j = 3 ∨ j = 4 ∨ j = 5 ∨ j = 6 := by omega
    rcases this with rfl | rfl | rfl | rfl | rfl | rfl | rfl <;> assumption).set (show 4 < 7 by omega) (wt - a)).set (show 5 < 7 by omega) (wt - b)
  have y0 : W3.cell? ⟨w1.heap.size, 0, none⟩ = some (.int .i64 (pl + wt * dp)) := by
    rw [hwc, World.cell?_drew]
    exact (hrow 0 (by omega)).trans (by simp [upd, ov])
  have y1 : W3.cell? ⟨w1.heap.size, 1, none⟩ = some (.int .i64 (ph + wt * dp)) := by
    rw [hwc, World.cell?_drew]
    exact (hrow 1 (by omega)).trans (by simp [upd, ov])
  have y2 : W3.cell? ⟨w1.heap.size, 2, none⟩ = some (.int .i64 (hL)) := by
    rw [hwc, World.cell?_drew]
    exact (hrow 2 (by omega)).trans (by simp [upd, ov])
  have y3 : W3.cell? ⟨w1.heap.size, 3, none⟩ = some (.int .i64 (hH)) := by
    rw [hwc, World.cell?_drew]
    exact (hrow 3 (by omega)).trans (by simp [upd, ov])
  have y4 : W3.cell? ⟨w1.heap.size, 4, none⟩ = some (.int .i64 (wt - a)) := by
    rw [hwc, World.cell?_drew]
    exact (hrow 4 (by omega)).trans (by simp [upd])
  have y5 : W3.cell? ⟨w1.heap.size, 5, none⟩ = some (.int .i64 (wt - b)) := by
    rw [hwc, World.cell?_drew]
    exact (hrow 5 (by omega)).trans (by simp [upd])
  have y6 : W3.cell? ⟨w1.heap.size, 6, none⟩ = some (.int .i64 (4)) := by
    rw [hwc, World.cell?_drew]
    exact (hrow 6 (by omega)).trans (by simp [upd, ov])
  have u0 : W3.cell? ⟨w.heap.size + 1, 0, none⟩ = some (.int .i64 0) := (hbw3.cell (p := ⟨w.heap.size + 1, 0, none⟩) (by simp; omega)).trans (R0.out.1 0 (by omega))
  have v0 : W3.frozen? ⟨w.heap.size + 1, 0, none⟩ = false := (hbw3.frozen (p := ⟨w.heap.size + 1, 0, none⟩) (by simp; omega)).trans (R0.out.2 0)
  have u1 : W3.cell? ⟨w.heap.size + 1, 1, none⟩ = some (.int .i64 0) := (hbw3.cell (p := ⟨w.heap.size + 1, 1, none⟩) (by simp; omega)).trans (R0.out.1 1 (by omega))
  have v1 : W3.frozen? ⟨w.heap.size + 1, 1, none⟩ = false := (hbw3.frozen (p := ⟨w.heap.size + 1, 1, none⟩) (by simp; omega)).trans (R0.out.2 1)
  have u2 : W3.cell? ⟨w.heap.size + 1, 2, none⟩ = some (.int .i64 0) := (hbw3.cell (p := ⟨w.heap.size + 1, 2, none⟩) (by simp; omega)).trans (R0.out.1 2 (by omega))
  have v2 : W3.frozen? ⟨w.heap.size + 1, 2, none⟩ = false := (hbw3.frozen (p := ⟨w.heap.size + 1, 2, none⟩) (by simp; omega)).trans (R0.out.2 2)
  have u3 : W3.cell? ⟨w.heap.size + 1, 3, none⟩ = some (.int .i64 0) := (hbw3.cell (p := ⟨w.heap.size + 1, 3, none⟩) (by simp; omega)).trans (R0.out.1 3 (by omega))
  have v3 : W3.frozen? ⟨w.heap.size + 1, 3, none⟩ = false := (hbw3.frozen (p := ⟨w.heap.size + 1, 3, none⟩) (by simp; omega)).trans (R0.out.2 3)
  have u4 : W3.cell? ⟨w.heap.size + 1, 4, none⟩ = some (.int .i64 0) := (hbw3.cell (p := ⟨w.heap.size + 1, 4, none⟩) (by simp; omega)).trans (R0.out.1 4 (by omega))
  have v4 : W3.frozen? ⟨w.heap.size + 1, 4, none⟩ = false := (hbw3.frozen (p := ⟨w.heap.size + 1, 4, none⟩) (by simp; omega)).trans (R0.out.2 4)
  have u5 : W3.cell? ⟨w.heap.size + 1, 5, none⟩ = some (.int .i64 0) := (hbw3.cell (p := ⟨w.heap.size + 1, 5, none⟩) (by simp; omega)).trans (R0.out.1 5 (by omega))
  have v5 : W3.frozen? ⟨w.heap.size + 1, 5, none⟩ = false := (hbw3.frozen (p := ⟨w.heap.size + 1, 5, none⟩) (by simp; omega)).trans (R0.out.2 5)
  have u6 : W3.cell? ⟨w.heap.size + 1, 6, none⟩ = some (.int .i64 0) := (hbw3.cell (p := ⟨w.heap.size + 1, 6, none⟩) (by simp; omega)).trans (R0.out.1 6 (by omega))
  have v6 : W3.frozen? ⟨w.heap.size + 1, 6, none⟩ = false := (hbw3.frozen (p := ⟨w.heap.size + 1, 6, none⟩) (by simp; omega)).trans (R0.out.2 6)
  have z6 : W3.frozen? ⟨w1.heap.size, 6, none⟩ = false := by rw [hwc]; simpa using FF.out 6
  have hbE : Below w.heap.size w W3 := hbw.trans (hbw3.mono (by omega))
  have n3 : w.heap.size + 1 ≠ w1.heap.size := by omega
  have n4 : w1.heap.size ≠ w.heap.size + 1 := by omega
  clear hwc hrow o0 o1 o2 o3 o4 o5 o6 f4 f5 p0 p1 p2 p3 p6 g1 g2 i1 i2 i3 i4 H3' H4 hb2 hb3 hbw3 n1 n2 H R0 FF hbw
  by_cases k1 : wt - b ≤ 3500
  · have e0 : kindV (wt - a) (wt - b) = 1 := by simp [kindV, k1]
    have E0 := (show Aside (kindV (wt - a) (wt - b) = _) from e0)
    clear e0
    go_wp2
    refine bodyPost_ret (v := .tuple #[.agg (iv (pl + wt * dp) (ph + wt * dp) hL hH (wt - a) (wt - b) 1), .int .i64 0]) (by simp [results, Try.results47, go_sem, u0, u1, u2, u3, u4, u5, u6, World.cell?_setCell_far, n4]) rfl ⟨by rw [E0.out], ?_⟩
    exact (hbE.setCell (by simp; omega) _).setCell (by simp) _ |>.setCell (by simp) _ |>.setCell (by simp) _ |>.setCell (by simp) _ |>.setCell (by simp) _ |>.setCell (by simp) _ |>.setCell (by simp) _
  · by_cases k2 : 9000 ≤ wt - a
    · have e0 : kindV (wt - a) (wt - b) = 3 := by simp [kindV, k1, k2]
      have E0 := (show Aside (kindV (wt - a) (wt - b) = _) from e0)
      clear e0
      go_wp2
      refine bodyPost_ret (v := .tuple #[.agg (iv (pl + wt * dp) (ph + wt * dp) hL hH (wt - a) (wt - b) 3), .int .i64 0]) (by simp [results, Try.results47, go_sem, u0, u1, u2, u3, u4, u5, u6, World.cell?_setCell_far, n4]) rfl ⟨by rw [E0.out], ?_⟩
      exact (hbE.setCell (by simp; omega) _).setCell (by simp) _ |>.setCell (by simp) _ |>.setCell (by simp) _ |>.setCell (by simp) _ |>.setCell (by simp) _ |>.setCell (by simp) _ |>.setCell (by simp) _
    · by_cases k3 : 3501 ≤ wt - a
      · by_cases k4 : wt - b ≤ 8999
        · have e0 : kindV (wt - a) (wt - b) = 2 := by unfold kindV; rw [if_neg k1, if_neg k2, if_pos ⟨by omega, by omega⟩]
          have E0 := (show Aside (kindV (wt - a) (wt - b) = _) from e0)
          clear e0
          go_wp2
          refine bodyPost_ret (v := .tuple #[.agg (iv (pl + wt * dp) (ph + wt * dp) hL hH (wt - a) (wt - b) 2), .int .i64 0]) (by simp [results, Try.results47, go_sem, u0, u1, u2, u3, u4, u5, u6, World.cell?_setCell_far, n4]) rfl ⟨by rw [E0.out], ?_⟩
          exact (hbE.setCell (by simp; omega) _).setCell (by simp) _ |>.setCell (by simp) _ |>.setCell (by simp) _ |>.setCell (by simp) _ |>.setCell (by simp) _ |>.setCell (by simp) _ |>.setCell (by simp) _
        · have e0 : kindV (wt - a) (wt - b) = 4 := by unfold kindV; rw [if_neg k1, if_neg k2, if_neg (by omega)]
          have E0 := (show Aside (kindV (wt - a) (wt - b) = _) from e0)
          clear e0
          go_wp2
          refine bodyPost_ret (v := .tuple #[.agg (iv (pl + wt * dp) (ph + wt * dp) hL hH (wt - a) (wt - b) 4), .int .i64 0]) (by simp [results, Try.results47, go_sem, u0, u1, u2, u3, u4, u5, u6]) rfl ⟨by rw [E0.out], ?_⟩
          exact hbE.setCell (by simp) _ |>.setCell (by simp) _ |>.setCell (by simp) _ |>.setCell (by simp) _ |>.setCell (by simp) _ |>.setCell (by simp) _ |>.setCell (by simp) _
      · have e0 : kindV (wt - a) (wt - b) = 4 := by unfold kindV; rw [if_neg k1, if_neg k2, if_neg (by omega)]
        have E0 := (show Aside (kindV (wt - a) (wt - b) = _) from e0)
        clear e0
        go_wp2
        refine bodyPost_ret (v := .tuple #[.agg (iv (pl + wt * dp) (ph + wt * dp) hL hH (wt - a) (wt - b) 4), .int .i64 0]) (by simp [results, Try.results47, go_sem, u0, u1, u2, u3, u4, u5, u6]) rfl ⟨by rw [E0.out], ?_⟩
        exact hbE.setCell (by simp) _ |>.setCell (by simp) _ |>.setCell (by simp) _ |>.setCell (by simp) _ |>.setCell (by simp) _ |>.setCell (by simp) _ |>.setCell (by simp) _
end Go.Proofs.Ytdjmidoegidlbaa
