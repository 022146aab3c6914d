/- KickEncloses returns true for every list of numbers and every three numbers. -/
import Derived.Test.YtngcfohmlppghaaRs
import Derived.Test.YtngcfohmlppghaaKm
import Derived.Test.YtngcfohmlppghaaKm0
import Derived.Test.YtngcfohmlppghaaMod64
import Derived.Test.YtngcfohmlppghaaKg
import Derived.Test.YtngcfohmlppghaaKr
namespace Go.Proofs.Ytngcfohmlppghaa
open Go.ChangeShapes Go.WideShapes Go.ChangeAt Go.RowKit

theorem bel_drewN {B : Nat} {a w : World} (h : Below B a w) {n : Nat} : Below B a (w.drewN n) := ⟨h.os, h.tape, h.output, h.size, h.block⟩
set_option maxHeartbeats 400000 in
theorem within_law (lo hi n : Int) (l0 : 0 ≤ lo) (l1 : lo ≤ hi) (l2 : hi ≤ 4611686018427387903) (hn : IntKind.i64.has n) (w : World) :
    Calls Try.prog 47 #[.agg #[.int .i64 lo, .int .i64 hi], .int .i64 n] w fun e w' => ∃ m : Int, lo ≤ m ∧ m ≤ hi ∧ e = .returned (.agg #[.int .i64 m, .int .i64 m]) ∧ Below w.heap.size w w' := by
  obtain ⟨n0, n1⟩ := has_bd hn
  have m0 : 0 ≤ n % (hi - lo + 1) := Int.emod_nonneg _ (by omega)
  have m1 : n % (hi - lo + 1) < hi - lo + 1 := Int.emod_lt_of_pos _ (by omega)
  clear hn
  have i1 : IntKind.i64.wrap (hi - lo) = hi - lo := IntWalk.i64_in _ (by omega)
  have i2 : IntKind.i64.wrap (hi - lo + 1) = hi - lo + 1 := IntWalk.i64_in _ (by omega)
  have i3 : IntKind.i64.wrap (lo + n % (hi - lo + 1)) = lo + n % (hi - lo + 1) := IntWalk.i64_in _ (by omega)
  have hm : ∀ w : World, Calls Try.prog 45 #[.int .i64 n, .int .i64 (hi - lo + 1)] w fun e w' => e = .returned (.int .i64 (n % (hi - lo + 1))) ∧ w' = w :=
    fun w => (mod64_any n (hi - lo + 1) n0 n1 (by omega) (by omega) w).mono fun _ _ ⟨he, hw⟩ => ⟨he, hw.symm⟩
  have HM : Aside (∀ w : World, Calls Try.prog 45 #[.int .i64 n, .int .i64 (hi - lo + 1)] w fun e w' => e = .returned (.int .i64 (n % (hi - lo + 1))) ∧ w' = w) := hm
  clear hm
  go_enter Try.func47, Try.ntmps47
  go_wp2_with fail
  go_quiet ((go_at_call 45; exact Calls.quiet_of_same (HM.out _)))
  clear i1 i2 i3
  go_wp2
  refine bodyPost_ret (v := .agg #[.int .i64 (lo + n % (hi - lo + 1)), .int .i64 (lo + n % (hi - lo + 1))]) (by simp [results, Try.results47, go_sem]) rfl ⟨lo + n % (hi - lo + 1), by omega, by omega, rfl, by go_grown; exact bel_drewN (by go_grown)⟩
theorem in_any (a b c d : Int) (w : World) :
    Calls Try.prog 48 #[.agg #[.int .i64 a, .int .i64 b], .agg #[.int .i64 c, .int .i64 d]] w fun e w' => e = .returned (.bool (decide (c ≤ a) && decide (b ≤ d))) ∧ Below w.heap.size w w' := by
  go_enter Try.func48, Try.ntmps48
  go_wp2
  all_goals go_ret
  · exact ⟨by simp [*], by go_grown⟩
  · exact ⟨by simp [*]; omega, by go_grown⟩

theorem XIs.below {w w' : World} {xb : Nat} {pl ph cl ch gl gh wt dp ar : Int} (h : XIs w xb pl ph cl ch gl gh wt dp ar) (k : Below w.heap.size w w') : XIs w' xb pl ph cl ch gl gh wt dp ar := h.kept (rb := xb + 1) (RKept.of_below k) (by omega)

theorem XIs.far {w : World} {xb b o : Nat} {pl ph cl ch gl gh wt dp ar : Int} (h : XIs w xb pl ph cl ch gl gh wt dp ar) (hb : xb ≠ b) (v : Value) : XIs (w.setCell ⟨b, o, none⟩ v) xb pl ph cl ch gl gh wt dp ar :=
  have hc : ∀ j, (w.setCell ⟨b, o, none⟩ v).cell? ⟨xb, j, none⟩ = w.cell? ⟨xb, j, none⟩ := fun j => World.cell?_setCell_other _ _ _ _ (by simp)
  ⟨(hc _).trans h.c0, (hc _).trans h.c1, (hc _).trans h.c2, (hc _).trans h.c3, (hc _).trans h.c4, (hc _).trans h.c5, (hc _).trans h.c6, (hc _).trans h.c7, (hc _).trans h.c8, fun k hk => by simpa using h.fz k hk⟩
/-- The well's six pressures and gains are there. -/
def Six (w : World) (b : Nat) (pl ph cl ch gl gh : Int) : Prop := w.cell? ⟨b, 0, none⟩ = some (.int .i64 pl) ∧ w.cell? ⟨b, 1, none⟩ = some (.int .i64 ph) ∧ w.cell? ⟨b, 2, none⟩ = some (.int .i64 cl) ∧ w.cell? ⟨b, 3, none⟩ = some (.int .i64 ch) ∧ w.cell? ⟨b, 4, none⟩ = some (.int .i64 gl) ∧ w.cell? ⟨b, 5, none⟩ = some (.int .i64 gh)
theorem XIs.six {w : World} {xb : Nat} {pl ph cl ch gl gh wt dp ar : Int} (h : XIs w xb pl ph cl ch gl gh wt dp ar) : Six w xb pl ph cl ch gl gh := ⟨h.c0, h.c1, h.c2, h.c3, h.c4, h.c5⟩
theorem Six.set {w : World} {b o : Nat} {v : Value} {pl ph cl ch gl gh : Int} (h : Six w b pl ph cl ch gl gh) : Six (w.setCell ⟨b + 1, o, none⟩ v) b pl ph cl ch gl gh := by
  obtain ⟨h0, h1, h2, h3, h4, h5⟩ := h
  exact ⟨(World.cell?_setCell_other _ _ _ _ (by simp)).trans h0, (World.cell?_setCell_other _ _ _ _ (by simp)).trans h1, (World.cell?_setCell_other _ _ _ _ (by simp)).trans h2, (World.cell?_setCell_other _ _ _ _ (by simp)).trans h3, (World.cell?_setCell_other _ _ _ _ (by simp)).trans h4, (World.cell?_setCell_other _ _ _ _ (by simp)).trans h5⟩
theorem Six.drew {w : World} {b : Nat} {pl ph cl ch gl gh : Int} (h : Six w b pl ph cl ch gl gh) : Six w.drew b pl ph cl ch gl gh := h

/-- What Identify says of the ranges and of the numbers within them, and how they lie. -/
def Pair (pl ph cl ch gl gh wt dp ar P C G aL aH aw av ak bL bH bw bv bk : Int) : Prop :=
  Aside (∀ w : World, Calls Try.prog 44 #[.agg (xv pl ph cl ch gl gh wt dp ar)] w fun e w' => e = .returned (.tuple #[.agg (iv (pl + wt * dp) (ph + wt * dp) aL aH aw av ak), .int .i64 0]) ∧ Below w.heap.size w w')
  ∧ Aside (∀ w : World, Calls Try.prog 44 #[.agg (xv P P C C G G wt dp ar)] w fun e w' => e = .returned (.tuple #[.agg (iv (P + wt * dp) (P + wt * dp) bL bH bw bv bk), .int .i64 0]) ∧ Below w.heap.size w w')
  ∧ aL ≤ bL ∧ bL ≤ bH ∧ bH ≤ aH ∧ bH - bL ≤ 1 ∧ aw ≤ bw ∧ bv ≤ av ∧ (ak ≠ 4 → bk = ak) ∧ 0 ≤ wt * dp ∧ wt * dp ≤ 8399600000
  ∧ 0 ≤ wt - bv ∧ wt - bv ≤ C - P ∧ 0 ≤ wt - bw ∧ wt - bw ≤ C - P ∧ (wt - bv) * G ≤ (C - P) * ar ∧ (C - P) * ar ≤ (wt - bw) * G
  ∧ 0 ≤ (wt - bv) * G ∧ (wt - bv) * G ≤ 230000000000000 ∧ 0 ≤ (wt - bw) * G ∧ (wt - bw) * G ≤ 230000000000000 ∧ 0 ≤ (C - P) * ar ∧ (C - P) * ar ≤ 230000000000000 ∧ 0 ≤ bL ∧ bL ≤ 4611686018427387 ∧ bH ≤ 4611686018427387
theorem pair_is {pl ph cl ch gl gh wt dp ar P C G : Int} (pl0 : 0 ≤ pl) (pl1 : pl ≤ 1048575) (ph0 : pl ≤ ph) (ph1 : ph ≤ pl + 524286) (cl0 : ph ≤ cl) (cl1 : cl ≤ ph + 209715000) (ch0 : cl ≤ ch) (ch1 : ch ≤ cl + 524286) (ar0 : 1 ≤ ar) (ar1 : ar ≤ 500) (gl0 : ar ≤ gl) (gl1 : gl ≤ ar + 1048575) (gh0 : gl ≤ gh) (gh1 : gh ≤ gl + 32766) (wt0 : 9000 ≤ wt) (wt1 : wt ≤ 20999) (dp0 : 1 ≤ dp) (dp1 : dp ≤ 400000)
    (Pa : pl ≤ P) (Pb : P ≤ ph) (Ca : cl ≤ C) (Cb : C ≤ ch) (Ga : gl ≤ G) (Gb : G ≤ gh) : ∃ aL aH aw av ak bL bH bw bv bk : Int, Pair pl ph cl ch gl gh wt dp ar P C G aL aH aw av ak bL bH bw bv bk := by
  obtain ⟨m1, m2, m3, m4, m5, m6, m7, m8, m9, m10, m11, m12, m13, m14⟩ := encl_math Pa Pb Ca Cb Ga Gb cl0 ar0 gl0
  have m15 := fun h => kindV_in (a := wt - cdiv (ch - pl) (gl / ar)) (b := wt - (cl - ph) / cdiv gh ar) (c := wt - cdiv (C - P) (G / ar)) (d := wt - (C - P) / cdiv G ar) (by omega) (by omega) (by omega) h
  have hx1 : shutB pl ph cl ch gl gh wt dp ar = true := by simp [shutB, wi, isR]; omega
  have hy1 : shutB P P C C G G wt dp ar = true := by simp [shutB, wi, isR]; omega
  have hL := Int.ediv_le_self (a := G) ar (by omega)
  have hL0 : 1 ≤ G / ar := by omega
  have hH1 : cdiv G ar ≤ 4611686018427387 := by omega
  obtain ⟨w0, w1⟩ := mul_bd (show (0 : Int) ≤ wt by omega) wt1 (show (0 : Int) ≤ dp by omega) dp1
  have dCP : C - P ≤ 211287861 := by omega
  obtain ⟨e0, e1⟩ := mul_bd m8 (show (C - P) / cdiv G ar ≤ 211287861 by omega) (show (0 : Int) ≤ G by omega) (show G ≤ 1081841 by omega)
  obtain ⟨f0, f1⟩ := mul_bd m10 (show cdiv (C - P) (G / ar) ≤ 211287861 by omega) (show (0 : Int) ≤ G by omega) (show G ≤ 1081841 by omega)
  obtain ⟨g0, g1⟩ := mul_bd (show 0 ≤ C - P by omega) dCP (show (0 : Int) ≤ ar by omega) ar1
  have r1 : wt - (wt - (C - P) / cdiv G ar) = (C - P) / cdiv G ar := by omega
  have r2 : wt - (wt - cdiv (C - P) (G / ar)) = cdiv (C - P) (G / ar) := by omega
  refine ⟨gl / ar, cdiv gh ar, wt - cdiv (ch - pl) (gl / ar), wt - (cl - ph) / cdiv gh ar, kindV (wt - cdiv (ch - pl) (gl / ar)) (wt - (cl - ph) / cdiv gh ar), G / ar, cdiv G ar, wt - cdiv (C - P) (G / ar), wt - (C - P) / cdiv G ar, kindV (wt - cdiv (C - P) (G / ar)) (wt - (C - P) / cdiv G ar), fun w => ident_ok _ _ _ _ _ _ _ _ _ hx1 (by omega) w, fun w => ident_ok _ _ _ _ _ _ _ _ _ hy1 (by omega) w, ?_⟩
  rw [r1, r2]
  exact ⟨m1, m4, m2, m3, by omega, by omega, m15, w0, w1, m8, m9, m10, m11, m13, m14, e0, by omega, f0, by omega, g0, by omega, by omega, by omega, hH1⟩

/-- A range that lies in another one. -/
theorem in_yes (a b c d : Int) (h1 : c ≤ a) (h2 : b ≤ d) (w : World) :
    Calls Try.prog 48 #[.agg #[.int .i64 a, .int .i64 b], .agg #[.int .i64 c, .int .i64 d]] w fun e w' => e = .returned (.bool true) ∧ Below w.heap.size w w' := by
  have := in_any a b c d w
  simpa [h1, h2] using this
/-- Both influxes are there. -/
def EH (W w' : World) (ab bb : Nat) (a0 a1 a2 a3 a4 a5 a6 b0 b1 b2 b3 b4 b5 b6 : Int) : Prop := Below W.heap.size W w' ∧ w'.cell? ⟨ab, 0, none⟩ = some (.int .i64 a0) ∧ w'.cell? ⟨ab, 1, none⟩ = some (.int .i64 a1) ∧ w'.cell? ⟨ab, 2, none⟩ = some (.int .i64 a2) ∧ w'.cell? ⟨ab, 3, none⟩ = some (.int .i64 a3) ∧ w'.cell? ⟨ab, 4, none⟩ = some (.int .i64 a4) ∧ w'.cell? ⟨ab, 5, none⟩ = some (.int .i64 a5) ∧ w'.cell? ⟨ab, 6, none⟩ = some (.int .i64 a6) ∧ w'.cell? ⟨bb, 0, none⟩ = some (.int .i64 b0) ∧ w'.cell? ⟨bb, 1, none⟩ = some (.int .i64 b1) ∧ w'.cell? ⟨bb, 2, none⟩ = some (.int .i64 b2) ∧ w'.cell? ⟨bb, 3, none⟩ = some (.int .i64 b3) ∧ w'.cell? ⟨bb, 4, none⟩ = some (.int .i64 b4) ∧ w'.cell? ⟨bb, 5, none⟩ = some (.int .i64 b5) ∧ w'.cell? ⟨bb, 6, none⟩ = some (.int .i64 b6)
theorem EH.next {W w1 w2 : World} {ab bb : Nat} {a0 a1 a2 a3 a4 a5 a6 b0 b1 b2 b3 b4 b5 b6 : Int} (hb : Below w1.heap.size w1 w2) (h : EH W w1 ab bb a0 a1 a2 a3 a4 a5 a6 b0 b1 b2 b3 b4 b5 b6) : EH W w2 ab bb a0 a1 a2 a3 a4 a5 a6 b0 b1 b2 b3 b4 b5 b6 := by
  obtain ⟨k, h0, h1, h2, h3, h4, h5, h6, h7, h8, h9, h10, h11, h12, h13⟩ := h
  have hc : ∀ b o, b < w1.heap.size → w2.cell? ⟨b, o, none⟩ = w1.cell? ⟨b, o, none⟩ := (bcell hb).1
  have la := lt_of_cell h0
  have lb := lt_of_cell h7
  exact ⟨bel_trans k hb, (hc _ _ la).trans h0, (hc _ _ la).trans h1, (hc _ _ la).trans h2, (hc _ _ la).trans h3, (hc _ _ la).trans h4, (hc _ _ la).trans h5, (hc _ _ la).trans h6, (hc _ _ lb).trans h7, (hc _ _ lb).trans h8, (hc _ _ lb).trans h9, (hc _ _ lb).trans h10, (hc _ _ lb).trans h11, (hc _ _ lb).trans h12, (hc _ _ lb).trans h13⟩
theorem EH.drew {W w1 : World} {ab bb : Nat} {a0 a1 a2 a3 a4 a5 a6 b0 b1 b2 b3 b4 b5 b6 : Int} (h : EH W w1 ab bb a0 a1 a2 a3 a4 a5 a6 b0 b1 b2 b3 b4 b5 b6) : EH W w1.drew ab bb a0 a1 a2 a3 a4 a5 a6 b0 b1 b2 b3 b4 b5 b6 := ⟨h.1.drew, h.2⟩

set_option maxRecDepth 100000 in
set_option maxHeartbeats 4000000 in
theorem walkEncl (w : World) (a : Option Addr) (len cap : Nat) (zs : List Int) (hrow : IsRow w a len cap zs) (p : Int) (hp : IntKind.i64.has p) (c : Int) (hc : IntKind.i64.has c) (g : Int) (hg : IntKind.i64.has g) :
    Calls Try.prog 11 #[.slice a len cap, .int .i64 p, .int .i64 c, .int .i64 g] w fun e w' => e = .returned (.bool true) ∧ Below w.heap.size w w' := by
  go_enter Try.func11, Try.ntmps11
  go_wp2_with fail
  refine (newRing_any a len cap zs w hrow).mono ?_
  rintro e w1 ⟨rb, hrb, rfl, hb1, r1⟩
  go_wp2_with fail
  refine (shut_any rb a len cap zs 0 (by omega) w1 r1).mono ?_
  rintro e w2 ⟨pl, ph, cl, ch, gl, gh, wt, dp, ar, pl0, pl1, ph0, ph1, cl0, cl1, ch0, ch1, ar0, ar1, gl0, gl1, gh0, gh1, wt0, wt1, dp0, dp1, rfl, k2⟩
  have hb2 : Below w.heap.size w w2 := hb1.trans (k2.below hrb hb1.size)
  clear k2 r1 hb1 hrow
  go_wp2_with fail
  obtain ⟨W0, hW0⟩ : ∃ W, W = ((w2.alloc (.cells (xv pl ph cl ch gl gh wt dp ar) 79)).alloc (.cells (xv pl ph cl ch gl gh wt dp ar) 79)) := ⟨_, rfl⟩
  have X : XIs W0.drew w2.heap.size pl ph cl ch gl gh wt dp ar := by rw [hW0]; exact ⟨by simp [go_sem, World.cell?_alloc_past], by simp [go_sem, World.cell?_alloc_past], by simp [go_sem, World.cell?_alloc_past], by simp [go_sem, World.cell?_alloc_past], by simp [go_sem, World.cell?_alloc_past], by simp [go_sem, World.cell?_alloc_past], by simp [go_sem, World.cell?_alloc_past], by simp [go_sem, World.cell?_alloc_past], by simp [go_sem, World.cell?_alloc_past], fun j _ => by simp [go_sem]⟩
  have Y : XIs W0.drew (w2.heap.size + 1) pl ph cl ch gl gh wt dp ar := by rw [hW0]; exact ⟨by simp [go_sem], by simp [go_sem], by simp [go_sem], by simp [go_sem], by simp [go_sem], by simp [go_sem], by simp [go_sem], by simp [go_sem], by simp [go_sem], fun j _ => by simp [go_sem]⟩
  have B : Below w.heap.size w W0.drew := by rw [hW0]; exact (bel_trans hb2 (by go_grown)).drew
  rw [← hW0]
  have hs2 : w.heap.size ≤ w2.heap.size := hb2.size
  clear hW0 hb2
  go_region_held3 (fun w' => w'.cell? ⟨w2.heap.size, 0, none⟩ = some (.int .i64 pl) ∧ w'.cell? ⟨w2.heap.size, 1, none⟩ = some (.int .i64 ph) ∧ w'.cell? ⟨w2.heap.size, 2, none⟩ = some (.int .i64 cl) ∧ w'.cell? ⟨w2.heap.size, 3, none⟩ = some (.int .i64 ch) ∧ w'.cell? ⟨w2.heap.size, 4, none⟩ = some (.int .i64 gl) ∧ w'.cell? ⟨w2.heap.size, 5, none⟩ = some (.int .i64 gh))
    (first
      | (refine Six.set (Six.set ?_); assumption)
      | (refine Six.set ?_; assumption)
      | exact XIs.six (by assumption))
    (first
      | (go_at_call 47; have _q := X4.c0; clear _q; refine (within_law gl gh g (by omega) (by omega) (by omega) hg _).mono ?_; rintro e w5 ⟨G, Ga, Gb, rfl, hb5⟩; have X5 := X4.below hb5; have Y5 := Y4.below hb5; have B5 := bel_trans B4 hb5; have y0 := Y5.c0; have f0 := Y5.fz 0 (by omega); have y1 := Y5.c1; have f1 := Y5.fz 1 (by omega); have y2 := Y5.c2; have f2 := Y5.fz 2 (by omega); have y3 := Y5.c3; have f3 := Y5.fz 3 (by omega); have y4 := Y5.c4; have f4 := Y5.fz 4 (by omega); have y5 := Y5.c5; have f5 := Y5.fz 5 (by omega))
      | (go_at_call 47; have _q := X3.c0; clear _q; refine (within_law cl ch c (by omega) (by omega) (by omega) hc _).mono ?_; rintro e w4 ⟨C, Ca, Cb, rfl, hb4⟩; have X4 := X3.below hb4; have Y4 := Y3.below hb4; have B4 := bel_trans B3 hb4)
      | (go_at_call 47; refine (within_law pl ph p (by omega) (by omega) (by omega) hp _).mono ?_; rintro e w3 ⟨P, Pa, Pb, rfl, hb3⟩; have X3 := X.below hb3; have Y3 := Y.below hb3; have B3 := bel_trans B hb3))
  obtain ⟨W6, hW6⟩ : ∃ W, W = (((((w5.setCell ⟨w2.heap.size + 1, 0, none⟩ (.int .i64 P)).setCell ⟨w2.heap.size + 1, 1, none⟩ (.int .i64 P)).setCell ⟨w2.heap.size + 1, 2, none⟩ (.int .i64 C)).setCell ⟨w2.heap.size + 1, 3, none⟩ (.int .i64 C)).setCell ⟨w2.heap.size + 1, 4, none⟩ (.int .i64 G)).setCell ⟨w2.heap.size + 1, 5, none⟩ (.int .i64 G) := ⟨_, rfl⟩
  have Y6 : XIs W6 (w2.heap.size + 1) P P C C G G wt dp ar := by rw [hW6]; exact (((((Y5.set0 _).set1 _).set2 _).set3 _).set4 _).set5 _
  have X6 : XIs W6 w2.heap.size pl ph cl ch gl gh wt dp ar := by rw [hW6]; exact (((((X5.far (by omega) _).far (by omega) _).far (by omega) _).far (by omega) _).far (by omega) _).far (by omega) _
  have B6 : Below w.heap.size w W6 := by rw [hW6]; exact (((((B5.setCell (by simp; omega) _).setCell (by simp; omega) _).setCell (by simp; omega) _).setCell (by simp; omega) _).setCell (by simp; omega) _).setCell (by simp; omega) _
  rw [← hW6]
  clear hW6 Y5 X5 B5 hb5 B4 X4 Y4 hb4 B3 X3 Y3 hb3 X Y B y0 y1 y2 y3 y4 y5 f0 f1 f2 f3 f4 f5 hp hc hg
  obtain ⟨aL, aH, aw, av, ak, bL, bH, bw, bv, bk, HX, HY, n1, n2, n3, n4, n5, n6, n7, n8, n9, n10, n11, n12, n13, n14, n15, n16, n17, n18, n19, n20, n21, n22, n23, n24⟩ := pair_is pl0 pl1 ph0 ph1 cl0 cl1 ch0 ch1 ar0 ar1 gl0 gl1 gh0 gh1 wt0 wt1 dp0 dp1 Pa Pb Ca Cb Ga Gb
  obtain ⟨wd, hwd⟩ : ∃ z, z = wt * dp := ⟨_, rfl⟩
  rw [← hwd] at HX HY n8 n9
  have HW : Aside (wd = wt * dp) := hwd
  clear hwd
  have x0 := X6.c0; have x1 := X6.c1; have x2 := X6.c2; have x3 := X6.c3; have x4 := X6.c4; have x5 := X6.c5; have x6 := X6.c6; have x7 := X6.c7; have x8 := X6.c8
  go_wp2_with fail
  refine (HX.out _).mono ?_
  rintro e w7 ⟨rfl, hb7⟩
  have Y7 := Y6.below hb7
  have X7 := X6.below hb7
  have B7 := bel_trans B6 hb7
  clear x0 x1 x2 x3 x4 x5 x6 x7 x8 X6 Y6 B6 hb7 HX
  have y0 := Y7.c0; have y1 := Y7.c1; have y2 := Y7.c2; have y3 := Y7.c3; have y4 := Y7.c4; have y5 := Y7.c5; have y6 := Y7.c6; have y7 := Y7.c7; have y8 := Y7.c8
  have hs7 : w2.heap.size + 1 < w7.heap.size := lt_of_cell y0
  go_wp2_with fail
  refine (HY.out _).mono ?_
  rintro e w8 ⟨rfl, hb8⟩
  obtain ⟨hc8, -⟩ := bcell hb8
  simp only [World.size_alloc] at hc8
  have hs8 : w7.heap.size < w8.heap.size := by have := hb8.size; simp at this; omega
  have b8 : Below w7.heap.size w7 w8 := bel_trans (by go_grown) hb8
  have Y8 := Y7.below b8
  have X8 := X7.below b8
  have B8 := bel_trans B7 b8
  have q0 : w8.cell? ⟨w7.heap.size, 0, none⟩ = some (.int .i64 (pl + wd)) := (hc8 _ _ (by omega)).trans (by simp [go_sem])
  have q1 : w8.cell? ⟨w7.heap.size, 1, none⟩ = some (.int .i64 (ph + wd)) := (hc8 _ _ (by omega)).trans (by simp [go_sem])
  have q2 : w8.cell? ⟨w7.heap.size, 2, none⟩ = some (.int .i64 aL) := (hc8 _ _ (by omega)).trans (by simp [go_sem])
  have q3 : w8.cell? ⟨w7.heap.size, 3, none⟩ = some (.int .i64 aH) := (hc8 _ _ (by omega)).trans (by simp [go_sem])
  have q4 : w8.cell? ⟨w7.heap.size, 4, none⟩ = some (.int .i64 aw) := (hc8 _ _ (by omega)).trans (by simp [go_sem])
  have q5 : w8.cell? ⟨w7.heap.size, 5, none⟩ = some (.int .i64 av) := (hc8 _ _ (by omega)).trans (by simp [go_sem])
  have q6 : w8.cell? ⟨w7.heap.size, 6, none⟩ = some (.int .i64 ak) := (hc8 _ _ (by omega)).trans (by simp [go_sem])
  clear y0 y1 y2 y3 y4 y5 y6 y7 y8 X7 Y7 B7 HY hc8 b8 hb8
  go_wp2_with fail
  obtain ⟨W9, hW9⟩ : ∃ W, W = (w8.alloc (.cells (iv (P + wd) (P + wd) bL bH bw bv bk) 75)) := ⟨_, rfl⟩
  have Y9 : XIs W9 (w2.heap.size + 1) P P C C G G wt dp ar := by rw [hW9]; exact Y8.below (by go_grown)
  have X9 : XIs W9 w2.heap.size pl ph cl ch gl gh wt dp ar := by rw [hW9]; exact X8.below (by go_grown)
  have B9 : Below w.heap.size w W9 := by rw [hW9]; exact B8.alloc B8.size _
  have E9 : EH W9 W9 w7.heap.size w8.heap.size (pl + wd) (ph + wd) aL aH aw av ak (P + wd) (P + wd) bL bH bw bv bk := by
    rw [hW9]
    refine ⟨Below.refl _ _, ?_⟩
    simp [go_sem, World.cell?_alloc_past, hs8, q0, q1, q2, q3, q4, q5, q6]
  rw [← hW9]
  clear hW9 X8 Y8 B8 q0 q1 q2 q3 q4 q5 q6
  refine (in_yes (P + wd) (P + wd) (pl + wd) (ph + wd) (by omega) (by omega) _).mono ?_
  rintro e1 w10 ⟨rfl, hb10⟩
  have E10 := E9.next hb10
  obtain ⟨-, z0, z1, z2, z3, z4, z5, z6, z7, z8, z9, z10, z11, z12, z13⟩ := E10
  go_wp2_with fail
  refine (in_yes bL bH aL aH (by omega) (by omega) _).mono ?_
  rintro e1 w11 ⟨rfl, hb11⟩
  have E11 := (E9.next hb10).next hb11
  clear z0 z1 z2 z3 z4 z5 z6 z7 z8 z9 z10 z11 z12 z13
  obtain ⟨-, z0, z1, z2, z3, z4, z5, z6, z7, z8, z9, z10, z11, z12, z13⟩ := E11
  go_wp2_with fail
  refine (in_yes bw bv aw av (by omega) (by omega) _).mono ?_
  rintro e1 w12 ⟨rfl, hb12⟩
  have E12 := ((E9.next hb10).next hb11).next hb12
  clear z0 z1 z2 z3 z4 z5 z6 z7 z8 z9 z10 z11 z12 z13
  have b12 := E12.1
  have Y12 := Y9.below b12
  have X12 := X9.below b12
  have B12 := bel_trans B9 b12
  clear Y9 X9 B9 E9 b12 hb10 hb11 hb12
  obtain ⟨-, z0, z1, z2, z3, z4, z5, z6, z7, z8, z9, z10, z11, z12, z13⟩ := E12
  have y0 := Y12.c0; have y1 := Y12.c1; have y2 := Y12.c2; have y3 := Y12.c3; have y4 := Y12.c4; have y5 := Y12.c5; have x6 := X12.c6; have x7 := X12.c7; have x8 := X12.c8
  have i1 : IntKind.i64.wrap (bH - bL) = bH - bL := IntWalk.i64_in _ (by omega)
  have i2 : IntKind.i64.wrap (C - P) = C - P := IntWalk.i64_in _ (by omega)
  have i3 : IntKind.i64.wrap (wt - bv) = wt - bv := IntWalk.i64_in _ (by omega)
  have i4 : IntKind.i64.wrap (wt - bw) = wt - bw := IntWalk.i64_in _ (by omega)
  have i5 : IntKind.i64.wrap ((wt - bv) * G) = (wt - bv) * G := IntWalk.i64_in _ (by omega)
  have i6 : IntKind.i64.wrap ((wt - bw) * G) = (wt - bw) * G := IntWalk.i64_in _ (by omega)
  have i7 : IntKind.i64.wrap ((C - P) * ar) = (C - P) * ar := IntWalk.i64_in _ (by omega)
  have i8 : IntKind.i64.wrap (wt * dp) = wd := by rw [← HW.out]; exact IntWalk.i64_in _ (by omega)
  have i9 : IntKind.i64.wrap (P + wd) = P + wd := IntWalk.i64_in _ (by omega)
  have j1 : ¬ (wt - bv) * G > (C - P) * ar := by omega
  have j2 : ¬ (wt - bw) * G < (C - P) * ar := by omega
  have j3 : ¬ bH - bL > 1 := by omega
  clear X12 Y12
  go_wp2_with (go_at_call 13; refine (awake_any _).mono ?_; rintro e w13 ⟨rfl, hb13⟩)
  all_goals go_ret
  all_goals exact ⟨rfl, bel_trans B12 hb13⟩

set_option maxRecDepth 100000 in
theorem liftedKickEncloses (os : Os) (started : os.Started) (H : Type) (enc : TypeId × Value → H) :
    ReturnsInHanded {} Try.checked os 11 .any (Rows.kickEnclosesSpec.pre6 enc Try.prog Try.f11 Rows.kickEnclosesRow.domain false) (Rows.kickEnclosesSpec.post enc Try.prog Try.f11 false true false false) := by
  refine returnsInHanded_of_change (C := Try.checked) own started (by kernel_rfl) Try.func11
    (ChangeSpec.witness6 (enc := enc) (C := Try.checked) false ⟨#[], #[.slice none 0 0, .int .i64 0, .int .i64 0, .int .i64 0], []⟩ 16 (by kernel_rfl) (by kernel_rfl) (by kernel_rfl) (by kernel_rfl)) ?_
  intro W base args ds gs before hval0 hW hcnd _
  have hval : ∀ (j : Nat) t v, Try.f11.params[j]? = some t → args[j]? = some v → Value.okWide Try.prog W .any base t v := hval0
  have hW' := hW
  obtain ⟨p, q, hA0, hV, rfl, hfz, hnd⟩ := hW
  have hA : DataW.TrodAll enc Try.prog W 0 (fun _ => true) true Try.f11.params.toList args.toList ds p := hA0
  rw [Try.params11] at hA hval
  obtain ⟨v0, vs0, d0, ds0, p0, q0, hargs, rfl, rfl, h0, r0⟩ := trodAll_cons hA
  obtain ⟨v1, vs1, d1, ds1, p1, q1, rfl, rfl, rfl, h1, r1⟩ := trodAll_cons r0
  obtain ⟨v2, vs2, d2, ds2, p2, q2, rfl, rfl, rfl, h2, r2⟩ := trodAll_cons r1
  obtain ⟨v3, vs3, d3, ds3, p3, q3, rfl, rfl, rfl, h3, r3⟩ := trodAll_cons r2
  obtain ⟨rfl, rfl, rfl⟩ := trodAll_nil r3
  obtain rfl : args = #[v0, v1, v2, v3] := by cases args; simp_all
  obtain ⟨rfl, rfl⟩ := trodVars_none hV
  have k0 := h0
  have lt0 : ∀ x ∈ p0, x.block < W.heap.size := by obtain ⟨m, hm⟩ := k0; exact DataW.trod_lt m _ _ _ hm
  obtain ⟨a0, len0, cap0, z0, rfl, w0⟩ := val_ints Try.underlying24 Try.underlying3 (by kernel_rfl) (hval 0 _ v0 rfl rfl) h0
  have k1 := h1
  have lt1 : ∀ x ∈ p1, x.block < W.heap.size := by obtain ⟨m, hm⟩ := k1; exact DataW.trod_lt m _ _ _ hm
  obtain ⟨a1, rfl, b1⟩ := val_int (by kernel_rfl) (hval 1 _ v1 rfl rfl)
  have k2 := h2
  have lt2 : ∀ x ∈ p2, x.block < W.heap.size := by obtain ⟨m, hm⟩ := k2; exact DataW.trod_lt m _ _ _ hm
  obtain ⟨a2, rfl, b2⟩ := val_int (by kernel_rfl) (hval 2 _ v2 rfl rfl)
  have k3 := h3
  have lt3 : ∀ x ∈ p3, x.block < W.heap.size := by obtain ⟨m, hm⟩ := k3; exact DataW.trod_lt m _ _ _ hm
  obtain ⟨a3, rfl, b3⟩ := val_int (by kernel_rfl) (hval 3 _ v3 rfl rfl)
  clear hA0 hval0
  refine (walkEncl W a0 len0 cap0 z0 w0 a1 b1 a2 b2 a3 b3).mono fun e W' ⟨he, bel⟩ => ?_
  subst he
  exact ⟨_, rfl, _, _, _, [], _, [], hW', trodAll_mk1 (shut_bool Try.underlying4 _), (trodAll_cons_mk (Below.trod laidOut (by kernel_rfl) (of_decide_eq_true (by kernel_rfl)) k0 bel lt0) (trodAll_cons_mk (Below.trod laidOut (by kernel_rfl) (of_decide_eq_true (by kernel_rfl)) k1 bel lt1) (trodAll_cons_mk (Below.trod laidOut (by kernel_rfl) (of_decide_eq_true (by kernel_rfl)) k2 bel lt2) (trodAll_cons_mk (Below.trod laidOut (by kernel_rfl) (of_decide_eq_true (by kernel_rfl)) k3 bel lt3) trodAll_mk0)))), rfl, bel.frame _, fun h => by cases h⟩

/-- KickEncloses returns true for every input. -/
theorem kickEncloses_holds : Rows.KickEnclosesSaid :=
  OpenClaim.holds_of_wide 11 Try.f11 rfl rfl rfl rfl rfl rfl rfl ⟨rfl, rfl, rfl, rfl, rfl⟩ rfl rfl rfl rfl rfl (by kernel_rfl) Try.func11 (by kernel_rfl)
    (of_decide_eq_true (by kernel_rfl)) (by unfold Func.isWrapper; first | (rw [if_pos (by decide +kernel)]; kernel_rfl) | (rw [if_neg (by decide +kernel)]; exact ⟨rfl, rfl⟩))
    (fun os started H enc _ => liftedKickEncloses os started H enc)

end Go.Proofs.Ytngcfohmlppghaa
