/- The contract of False of layer 6: the false alarms of a valid sensor, for 1 to 12 draws. -/
import Derived.Test.YtngcfohmlppghaaKe
namespace Go.Proofs.Ytngcfohmlppghaa
open Go.RowKit

def falseV (n s m k : Int) (draws : Nat) : Int := rowsF (2 * n + 1) (highV n s m) k.toNat draws row0 k.toNat
def pre (R : Nat → Int) : Nat → Int
  | 0 => 0
  | i + 1 => pre R i + R i
theorem pre_sum (R : Nat → Int) : ∀ k, pre R k + R k = sumF R k
  | 0 => by simp [pre, sumF]
  | k + 1 => by have := pre_sum R k; simp only [pre, sumF]; omega
theorem pre_mono {R : Nat → Int} (h : ∀ j, 0 ≤ R j) {i k : Nat} (hi : i ≤ k) : pre R i ≤ pre R k := by
  induction hi with
  | refl => exact Int.le_refl _
  | @step n _ ih => have := h n; simp only [pre]; omega

/-- Nine cells of a block, and what a store does to them. -/
def Nine (w : World) (b : Nat) (N : Nat → Int) : Prop := ∀ j, j < 9 → w.cell? ⟨b, j, none⟩ = some (.int .i64 (N j))
theorem Nine.set {w : World} {b : Nat} {N : Nat → Int} (h : Nine w b N) {i : Nat} (hi : i < 9) (x : Int) : Nine (w.setCell ⟨b, i, none⟩ (.int .i64 x)) b (upd N i x) := fun j hj => by
  by_cases e : j = i
  · subst e
    rw [upd_same]
    exact World.cell?_setCell_same _ _ _ (h j hj)
  · rw [upd_other _ _ e, World.cell?_setCell_other (h := fun e' => e (by cases e'; rfl))]
    exact h j hj
theorem Nine.far {w : World} {b : Nat} {N : Nat → Int} (h : Nine w b N) {b' i : Nat} (hb : b ≠ b') (v : Value) : Nine (w.setCell ⟨b', i, none⟩ v) b N := fun j hj => by
  rw [World.cell?_setCell_other (h := fun e' => hb (by cases e'; rfl))]
  exact h j hj
theorem Nine.drew {w : World} {b : Nat} {N : Nat → Int} (h : Nine w b N) : Nine w.drew b N := h
/-- No cell of a block is frozen. -/
def Free (w : World) (b : Nat) : Prop := ∀ j, w.frozen? ⟨b, j, none⟩ = false
theorem Free.set {w : World} {b : Nat} (h : Free w b) (a : Addr) (v : Value) : Free (w.setCell a v) b := fun j => by
  have := h j
  simpa [go_sem] using this
theorem Free.drew {w : World} {b : Nat} (h : Free w b) : Free w.drew b := h

theorem mul_abs {a b A B : Int} (h0 : -A ≤ a) (h1 : a ≤ A) (h2 : 0 ≤ b) (h3 : b ≤ B) : -(A * B) ≤ a * b ∧ a * b ≤ A * B := by
  have hA : 0 ≤ A := by omega
  by_cases h : 0 ≤ a
  · have := mul_bd h h1 h2 h3
    have := Int.mul_nonneg hA (Int.le_trans h2 h3)
    omega
  · have := mul_bd (show 0 ≤ -a by omega) (show -a ≤ A by omega) h2 h3
    rw [Int.neg_mul] at this
    omega

set_option maxHeartbeats 1000000 in
theorem false_any (c p d n s l m k : Int) (draws : Nat) (hc : c = 1 ∨ c = 2) (h : sensB p d n s l m k = true) (hd1 : 1 ≤ draws) (hd2 : draws ≤ 12) (w : World) :
    Calls Try.prog 43 #[.agg (sv c p d n s l m k), .int .i64 draws] w fun e w' =>
      e = .returned (.tuple #[.int .i64 (falseV n s m k draws), .int .i64 (powF (2 * n + 1) draws), .int .i64 0]) ∧ Below w.heap.size w w' := by
  obtain ⟨⟨p0, p1⟩, ⟨d0, d1⟩, ⟨n0, n1⟩, ⟨s0, s1⟩, ⟨l0, l1⟩, ⟨m0, m1⟩, ⟨k0, k1⟩, -, -⟩ := fit_of (c := c) (r := 0) (g := 0) h (by decide)
  obtain ⟨k, rfl⟩ : ∃ K : Nat, k = (K : Int) := ⟨k.toNat, by omega⟩
  go_enter Try.func43, Try.ntmps43
  go_wp2_with (go_at_call 57; refine (sensor_ok1 _ _ _ _ _ _ _ _ hc h _).mono ?_; rintro e w' ⟨rfl, rfl⟩)
  obtain ⟨W0, hW0⟩ : ∃ W0 : World, (w.alloc (Obj.cells (sv c p d n s l m ↑k) 32)).alloc (Obj.cells (sv c p d n s l m ↑k) 32) = W0 := ⟨_, rfl⟩
  have q3 : W0.cell? ⟨w.heap.size, 3, none⟩ = some (.int .i64 n) := by rw [← hW0]; simp [go_sem]
  have q4 : W0.cell? ⟨w.heap.size, 4, none⟩ = some (.int .i64 s) := by rw [← hW0]; simp [go_sem]
  have q6 : W0.cell? ⟨w.heap.size, 6, none⟩ = some (.int .i64 m) := by rw [← hW0]; simp [go_sem]
  have q7 : W0.cell? ⟨w.heap.size, 7, none⟩ = some (.int .i64 (k : Int)) := by rw [← hW0]; simp [go_sem]
  have hbw : Below w.heap.size w W0 := by rw [← hW0]; go_grown
  have hlt : w.heap.size < W0.heap.size := by rw [← hW0]; simp; omega
  rw [hW0]
  clear hW0
  go_loopg [9, 10] (2 * n + 1).toNat (fun gg v9 v10 wr => ∃ (q hh : Int), v10 = .int .i64 q ∧ v9 = .int .i64 hh ∧ q + gg = n + 1 ∧ -n ≤ q ∧ 0 ≤ hh ∧ hh + gg ≤ 31 ∧ W0 = wr ∧ Aside (highF s m gg q hh = highV n s m))
  case atStart => exact ⟨-n, 0, rfl, rfl, by omega, by omega, by omega, by omega, rfl, rfl⟩
  case round =>
    obtain ⟨q, hh, rfl, rfl, hqg, hq0, hh0, hh1, rfl, HH⟩ := hrel
    obtain ⟨e0, e1⟩ := mul_abs (show (-16 : Int) ≤ q by omega) (show q ≤ 16 by omega) (show (0 : Int) ≤ s by omega) s1
    cases gk with
    | succ gk =>
      have hqn : q ≤ n := by omega
      by_cases hcd : m ≤ q * s
      · go_wp2_with fail
        go_roundg gk
        case measure => omega
        case rel =>
          refine ⟨q + 1, hh + 1, rfl, rfl, by omega, by omega, by omega, by omega, rfl, ?_⟩
          show _ = _
          rw [← HH.out]
          simp [highF, hcd]
      · go_wp2_with fail
        go_roundg gk
        case measure => omega
        case rel =>
          refine ⟨q + 1, hh, rfl, rfl, by omega, by omega, by omega, by omega, rfl, ?_⟩
          show _ = _
          rw [← HH.out]
          simp only [highF]
          rw [if_neg (by omega)]
    | zero =>
      have hqn : n < q := by omega
      have HV : Aside (hh = highV n s m) := HH
      clear HH
      go_wp2_with fail
      clear hqg hq0 hqn e0 e1
      obtain ⟨V, hV⟩ : ∃ V : Int, V = 2 * n + 1 := ⟨_, rfl⟩
      have V0 : 1 ≤ V := by omega
      have V1 : V ≤ 31 := by omega
      have hhV : hh ≤ V := by have := (high_bd s m (2 * n + 1).toNat (-n) 0 (by omega)).2; rw [HV.out]; unfold highV; omega
      rw [← hV]
      have HVV : Aside (V = 2 * n + 1) := hV
      clear hV
      go_loopg [5, 49] draws (fun gg v5 v49 wr => ∃ (i : Nat) (R : Nat → Int), i + gg = draws ∧ v49 = .int .i64 i ∧ v5 = .int .i64 (powF V i) ∧ Below W0.heap.size W0 wr ∧ W0.heap.size < wr.heap.size ∧
        (∀ j, j < 9 → wr.cell? ⟨W0.heap.size, j, none⟩ = some (.int .i64 (R j))) ∧ (∀ j, wr.frozen? ⟨W0.heap.size, j, none⟩ = false) ∧ Rows0 R k (powF 31 i) ∧ Aside (rowsF V hh k gg R = rowsF V hh k draws row0))
      case atStart =>
        refine ⟨0, row0, by omega, rfl, rfl, (Below.refl _ _).alloc (Nat.le_refl _) _, by simp, ?_, fun j => by simp [go_sem], ⟨?_, ?_⟩, rfl⟩
        · intro j hj
          have : j = 0 ∨ j = 1 ∨ j = 2 ∨ j = 3 ∨ j = 4 ∨ j = 5 ∨ j = 6 ∨ j = 7 ∨ j = 8 := by omega
          rcases this with rfl | rfl | rfl | rfl | rfl | rfl | rfl | rfl | rfl <;> simp [go_sem, row0, upd]
        · intro j
          show 0 ≤ row0 j
          unfold row0 upd
          split
          · omega
          · exact Int.le_refl 0
        · have := sum_upd (fun _ => 0) 0 1 k (Nat.zero_le _)
          simp only [sum_zero] at this
          show sumF (upd (fun _ => 0) 0 1) k ≤ 1
          exact Int.le_of_eq (by simpa using this)
      case round =>
        obtain ⟨i, R, hi, rfl, rfl, hbx, hgz, hR, hRf, hrow, HR⟩ := hrel
        obtain ⟨wo, rfl⟩ : ∃ wo : World, wo = wr := ⟨_, rfl⟩
        have t3 : wo.cell? ⟨w.heap.size, 3, none⟩ = some (.int .i64 n) := (hbx.cell (p := ⟨_, _, _⟩) hlt).trans q3
        have t7 : wo.cell? ⟨w.heap.size, 7, none⟩ = some (.int .i64 (k : Int)) := (hbx.cell (p := ⟨_, _, _⟩) hlt).trans q7
        have hltx : w.heap.size < wo.heap.size := by omega
        cases gk with
        | zero =>
          obtain rfl : i = draws := by omega
          have HE : Aside (falseV n s m k i = R k ∧ powF (2 * n + 1) i = powF V i) := by
            refine ⟨?_, by rw [HVV.out]⟩
            unfold falseV
            rw [← HV.out, Int.toNat_natCast, ← HVV.out, ← HR.out]
            rfl
          have c1 := hR k (by omega)
          have hk9 : (k : Int) < 9 := by omega
          have hbE := hbw.trans (hbx.mono (by omega))
          clear HR hR hRf
          go_wp2_with fail
          go_ret3
          rw [HE.out.1, HE.out.2]
          exact ⟨rfl, hbE⟩
        | succ gO =>
          have hid : (i : Int) < (draws : Int) := by omega
          have pw : powF 31 (i + 1) ≤ powF 31 12 := pow31_mono (by omega)
          have pw2 := pow12
          have pw1 : powF 31 (i + 1) = powF 31 i * 31 := rfl
          have z0 := rows0_le hrow (Nat.le_refl k)
          have hRk := hR k (by omega)
          have HRA : Aside (∀ j, j < 9 → wo.cell? ⟨W0.heap.size, j, none⟩ = some (.int .i64 (R j))) := hR
          have HRF : Aside (∀ j, wo.frozen? ⟨W0.heap.size, j, none⟩ = false) := hRf
          clear hR hRf
          obtain ⟨z1, z2⟩ := mul_bd z0.1 z0.2 (show (0 : Int) ≤ V by omega) V1
          have hk9 : (k : Int) < 9 := by omega
          go_wp2_with fail
          obtain ⟨W2, hW2⟩ : ∃ W2 : World, wo.alloc (.cells #[.int .i64 0, .int .i64 0, .int .i64 0, .int .i64 0, .int .i64 0, .int .i64 0, .int .i64 0, .int .i64 0, .int .i64 0] 118) = W2 := ⟨_, rfl⟩
          have hb2 : Below W0.heap.size W0 W2 := by rw [← hW2]; exact hbx.alloc (by omega) _
          have hs2 : W2.heap.size = wo.heap.size + 1 := by rw [← hW2]; simp
          have hR2 : Nine W2 W0.heap.size R := fun j hj => by rw [← hW2, World.cell?_alloc_past _ _ _ hgz]; exact HRA.out j hj
          have hN2 : Nine W2 wo.heap.size (fun _ => 0) := fun j hj => by
            rw [← hW2]
            have : j = 0 ∨ j = 1 ∨ j = 2 ∨ j = 3 ∨ j = 4 ∨ j = 5 ∨ j = 6 ∨ j = 7 ∨ j = 8 := by omega
            rcases this with rfl | rfl | rfl | rfl | rfl | rfl | rfl | rfl | rfl <;> simp [go_sem]
          have hF2 : Free W2 W0.heap.size := fun j => by rw [← hW2]; simp [go_sem, hgz, HRF.out j]
          have hG2 : Free W2 wo.heap.size := fun j => by rw [← hW2]; simp [go_sem]
          have t7' : W2.cell? ⟨w.heap.size, 7, none⟩ = some (.int .i64 (k : Int)) := by rw [← hW2, World.cell?_alloc_past _ _ _ hltx]; exact t7
          rw [hW2]
          clear hW2 t7 t3 hRk HRA HRF
          have c1 := hR2 k (by omega)
          have c2 : W2.cell? ⟨wo.heap.size, k, none⟩ = some (.int .i64 0) := hN2 k (by omega)
          have c3 := hG2 k
          go_region
          clear c1 c2 c3
          obtain ⟨W3, hW3⟩ : ∃ W3 : World, (W2.setCell ⟨wo.heap.size, k, none⟩ (.int .i64 (R k * V))).drew = W3 := ⟨_, rfl⟩
          have hb3 : Below W0.heap.size W0 W3 := by rw [← hW3]; exact (hb2.setCell (by simp; omega) _).drew
          have hs3 : W3.heap.size = wo.heap.size + 1 := by rw [← hW3]; simpa using hs2
          have hR3 : Nine W3 W0.heap.size R := by rw [← hW3]; exact (hR2.far (by omega) _).drew
          have hN3 : Nine W3 wo.heap.size (upd (fun _ => 0) k (R k * V)) := by rw [← hW3]; exact (hN2.set (by omega) _).drew
          have hF3 : Free W3 W0.heap.size := by rw [← hW3]; exact (hF2.set _ _).drew
          have hG3 : Free W3 wo.heap.size := by rw [← hW3]; exact (hG2.set _ _).drew
          have t7'' : W3.cell? ⟨w.heap.size, 7, none⟩ = some (.int .i64 (k : Int)) := (hb3.cell (p := ⟨_, _, _⟩) hlt).trans q7
          rw [hW3]
          clear hW3 hb2 hs2 hR2 hN2 hF2 hG2 t7'
          go_wp2_with fail
          go_loopg [62] k (fun g2 v62 wy => ∃ (ρ : Nat) (N : Nat → Int), ρ + g2 = k ∧ v62 = .int .i64 ρ ∧ Below W0.heap.size W0 wy ∧ wy.heap.size = wo.heap.size + 1 ∧ Nine wy W0.heap.size R ∧ Nine wy wo.heap.size N ∧ Free wy W0.heap.size ∧ Free wy wo.heap.size ∧
            Rows0 N k (V * (R k + pre R ρ)) ∧ Aside (innerF R V hh g2 ρ N = drawF V hh k R))
          case atStart =>
            refine ⟨0, _, by omega, rfl, hb3, hs3, hR3, hN3, hF3, hG3, ⟨?_, ?_⟩, rfl⟩
            · intro j
              unfold upd
              split
              · exact z1
              · exact Int.le_refl 0
            · have := sum_upd (fun _ => 0) k (R k * V) k (Nat.le_refl _)
              simp only [sum_zero, Int.zero_add] at this
              rw [this]
              simp only [pre, Int.add_zero]
              rw [Int.mul_comm]
              exact Int.le_refl _
          case round =>
            obtain ⟨ρ, N, hρ, rfl, hby, hsy, hRy, hNy, hFy, hGy, hrn, HI⟩ := hrel
            obtain ⟨wy, rfl⟩ : ∃ wy : World, wy = wr := ⟨_, rfl⟩
            cases gk with
            | zero =>
              obtain rfl : ρ = k := by omega
              have HD : Aside (N = drawF V hh ρ R) := HI
              clear HI
              obtain ⟨w0, w1⟩ := pow_bd V0 V1 i
              obtain ⟨w2, w3⟩ := pow_bd V0 V1 (i + 1)
              have we : powF V (i + 1) = powF V i * V := rfl
              rw [we] at w2 w3
              clear we
              have n0 := hNy 0 (by omega)
              have m0 := hRy 0 (by omega)
              have g0 := hFy 0
              have n1 := hNy 1 (by omega)
              have m1 := hRy 1 (by omega)
              have g1 := hFy 1
              have n2 := hNy 2 (by omega)
              have m2 := hRy 2 (by omega)
              have g2 := hFy 2
              have n3 := hNy 3 (by omega)
              have m3 := hRy 3 (by omega)
              have g3 := hFy 3
              have n4 := hNy 4 (by omega)
              have m4 := hRy 4 (by omega)
              have g4 := hFy 4
              have n5 := hNy 5 (by omega)
              have m5 := hRy 5 (by omega)
              have g5 := hFy 5
              have n6 := hNy 6 (by omega)
              have m6 := hRy 6 (by omega)
              have g6 := hFy 6
              have n7 := hNy 7 (by omega)
              have m7 := hRy 7 (by omega)
              have g7 := hFy 7
              have n8 := hNy 8 (by omega)
              have m8 := hRy 8 (by omega)
              have g8 := hFy 8
              go_wp2_with fail
              clear n0 m0 g0 n1 m1 g1 n2 m2 g2 n3 m3 g3 n4 m4 g4 n5 m5 g5 n6 m6 g6 n7 m7 g7 n8 m8 g8
              go_roundg gO
              case measure => omega
              case rel =>
                refine ⟨i + 1, N, by omega, by first | rfl | go_num, rfl, ?_, ?_, ?_, ?_, ⟨hrn.1, ?_⟩, ?_⟩
                · exact hby.setCell (Nat.le_refl _) _ |>.setCell (Nat.le_refl _) _ |>.setCell (Nat.le_refl _) _ |>.setCell (Nat.le_refl _) _ |>.setCell (Nat.le_refl _) _ |>.setCell (Nat.le_refl _) _ |>.setCell (Nat.le_refl _) _ |>.setCell (Nat.le_refl _) _ |>.setCell (Nat.le_refl _) _
                · simp; omega
                · intro j hj
                  have hq := (hRy.set (show 0 < 9 by omega) (N 0) |>.set (show 1 < 9 by omega) (N 1) |>.set (show 2 < 9 by omega) (N 2) |>.set (show 3 < 9 by omega) (N 3) |>.set (show 4 < 9 by omega) (N 4) |>.set (show 5 < 9 by omega) (N 5) |>.set (show 6 < 9 by omega) (N 6) |>.set (show 7 < 9 by omega) (N 7) |>.set (show 8 < 9 by omega) (N 8)) j hj
                  have hj9 : j = 0 ∨ j = 1 ∨ j = 2 ∨ j = 3 ∨ j = 4 ∨ j = 5 ∨ j = 6 ∨ j = 7 ∨ j = 8 := by omega
                  rw [hq]
                  rcases hj9 with rfl | rfl | rfl | rfl | rfl | rfl | rfl | rfl | rfl <;> simp [upd]
                · intro j
                  have := hFy j
                  simpa using this
                · have a2 := pre_sum R ρ
                  have a3 := hrow.2
                  have a5 : R ρ + pre R ρ = sumF R ρ := by omega
                  have := (mul_bd (show (0 : Int) ≤ V by omega) V1 (sum_nonneg hrow.1 ρ) a3).2
                  have a6 := hrn.2
                  rw [a5] at a6
                  omega
                · show _ = _
                  rw [← HR.out, HD.out]
                  rfl
            | succ gk =>
              have hρk : (ρ : Int) < (k : Int) := by omega
              have hρ9 : (ρ : Int) + 1 < 9 := by omega
              obtain ⟨r0, r1⟩ := rows0_le hrow (show ρ ≤ k by omega)
              obtain ⟨x0, x1⟩ := mul_bd r0 r1 hh0 (show hh ≤ 31 by omega)
              obtain ⟨y0, y1⟩ := mul_bd r0 r1 (show (0 : Int) ≤ V - hh by omega) (show V - hh ≤ 31 by omega)
              obtain ⟨n10, n11⟩ := rows0_le hrn (show ρ + 1 ≤ k by omega)
              obtain ⟨n20, n21⟩ := rows0_le hrn (Nat.zero_le k)
              have xy : R ρ * hh + R ρ * (V - hh) = V * R ρ := by rw [← Int.mul_add, show hh + (V - hh) = V by omega, Int.mul_comm]
              have B1 : V * (R k + pre R (ρ + 1)) = V * (R k + pre R ρ) + (R ρ * hh + R ρ * (V - hh)) := by
                rw [xy, ← Int.mul_add]
                congr 1
                simp only [pre]
                omega
              have B2 : V * (R k + pre R (ρ + 1)) ≤ 31 * powF 31 i := by
                have a1 := pre_mono hrow.1 (show ρ + 1 ≤ k by omega)
                have a2 := pre_sum R k
                have a3 := hrow.2
                have a4 : 0 ≤ pre R (ρ + 1) := by have := pre_mono hrow.1 (Nat.zero_le (ρ + 1)); simpa [pre] using this
                exact (mul_bd (show (0 : Int) ≤ V by omega) V1 (by have := hrow.1 k; omega) (by omega)).2
              have U1 : N (ρ + 1) + R ρ * hh ≤ 787662783788549761 := by omega
              have U2 : N 0 + R ρ * (V - hh) ≤ 787662783788549761 := by omega
              have U3 : R ρ * hh ≤ 787662783788549761 := by omega
              have U4 : R ρ * (V - hh) ≤ 787662783788549761 := by omega
              have hB : Aside (V * (R k + pre R (ρ + 1)) = V * (R k + pre R ρ) + R ρ * hh + R ρ * (V - hh)) := by
                show _ = _
                omega
              have U5 : N (ρ + 1) ≤ 787662783788549761 := by omega
              have U6 : N 0 ≤ 787662783788549761 := by omega
              clear xy B1 B2 x1 y1 n11 n21
              have c1 := hRy ρ (by omega)
              have c2 := hNy (ρ + 1) (by omega)
              have c3 := hGy (ρ + 1)
              go_wp2_with fail
              go_region
              clear c1 c2 c3
              obtain ⟨W5, hW5⟩ : ∃ W5 : World, (wy.setCell ⟨wo.heap.size, ρ + 1, none⟩ (.int .i64 (N (ρ + 1) + R ρ * hh))).drew = W5 := ⟨_, rfl⟩
              have e0 : upd N (ρ + 1) (N (ρ + 1) + R ρ * hh) 0 = N 0 := upd_other _ _ (by omega)
              have hb5 : Below W0.heap.size W0 W5 := by rw [← hW5]; exact (hby.setCell (by simp; omega) _).drew
              have hs5 : W5.heap.size = wo.heap.size + 1 := by rw [← hW5]; simpa using hsy
              have hR5 : Nine W5 W0.heap.size R := by rw [← hW5]; exact (hRy.far (by omega) _).drew
              have hN5 : Nine W5 wo.heap.size (upd N (ρ + 1) (N (ρ + 1) + R ρ * hh)) := by rw [← hW5]; exact (hNy.set (by omega) _).drew
              have hF5 : Free W5 W0.heap.size := by rw [← hW5]; exact (hFy.set _ _).drew
              have hG5 : Free W5 wo.heap.size := by rw [← hW5]; exact (hGy.set _ _).drew
              rw [hW5]
              clear hW5 hby hsy hRy hNy hFy hGy
              have c1 := hR5 ρ (by omega)
              have c2 : W5.cell? ⟨wo.heap.size, 0, none⟩ = some (.int .i64 (N 0)) := by have := hN5 0 (by omega); rwa [e0] at this
              have c3 := hG5 0
              have E0 : Aside (upd N (ρ + 1) (N (ρ + 1) + R ρ * hh) 0 = N 0) := e0
              clear e0
              go_wp2_with fail
              go_region
              clear c1 c2 c3
              go_wp2_with fail
              go_roundg gk
              case measure => omega
              case rel =>
                refine ⟨ρ + 1, upd (upd N (ρ + 1) (N (ρ + 1) + R ρ * hh)) 0 (upd N (ρ + 1) (N (ρ + 1) + R ρ * hh) 0 + R ρ * (V - hh)), by omega, by first | rfl | go_num, ?_, ?_, ?_, ?_, ?_, ?_, ?_, HI⟩
                · exact (hb5.setCell (by simp; omega) _).drew
                · simpa using hs5
                · exact (hR5.far (by omega) _).drew
                · rw [E0.out]
                  exact (hN5.set (by omega) _).drew
                · exact (hF5.set _ _).drew
                · exact (hG5.set _ _).drew
                · rw [hB.out]
                  exact rows0_upd (rows0_upd hrn (by omega) x0) (by omega) y0
end Go.Proofs.Ytngcfohmlppghaa
