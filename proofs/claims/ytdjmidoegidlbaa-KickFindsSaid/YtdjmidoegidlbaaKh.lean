/- The contract of the reference's False: the same numbers as the program's. -/
import Derived.Test.YtdjmidoegidlbaaKg
namespace Go.Proofs.Ytdjmidoegidlbaa
open Go.RowKit

/-- The first n cells of a block, and what a store does to them. -/
def RowN (w : World) (b n : Nat) (N : Nat → Int) : Prop := ∀ j, j < n → w.cell? ⟨b, j, none⟩ = some (.int .i64 (N j))
theorem RowN.set {w : World} {b n : Nat} {N : Nat → Int} (h : RowN w b n N) {i : Nat} (hi : i < n) (x : Int) : RowN (w.setCell ⟨b, i, none⟩ (.int .i64 x)) b n (upd N i x) := fun j hj => by
  by_cases e : j = i
  · subst e
    rw [upd_same]
    exact World.cell?_setCell_same _ _ _ (h j hj)
  · rw [upd_other _ _ e, World.cell?_setCell_other (h := fun e' => e (by cases e'; rfl))]
    exact h j hj
theorem RowN.far {w : World} {b n : Nat} {N : Nat → Int} (h : RowN w b n N) {b' i : Nat} (hb : b ≠ b') (v : Value) : RowN (w.setCell ⟨b', i, none⟩ v) b n N := fun j hj => by
  rw [World.cell?_setCell_other (h := fun e' => hb (by cases e'; rfl))]
  exact h j hj
theorem RowN.drew {w : World} {b n : Nat} {N : Nat → Int} (h : RowN w b n N) : RowN w.drew b n N := h
/-- A cell above the row may be said to hold anything. -/
theorem RowN.above {w : World} {b n : Nat} {N : Nat → Int} (h : RowN w b n N) {i : Nat} (hi : n ≤ i) (x : Int) : RowN w b n (upd N i x) := fun j hj => by
  rw [upd_other _ _ (by omega)]
  exact h j hj
theorem upd_comm (N : Nat → Int) (i : Nat) (x y : Int) (hi : 1 ≤ i) : upd (upd N i (N i + x)) 0 (upd N i (N i + x) 0 + y) = upd (upd N 0 (N 0 + y)) i (upd N 0 (N 0 + y) i + x) := by
  funext j
  simp only [upd]
  by_cases h0 : j = 0
  · subst h0
    simp [show ¬ ((0 : Nat) = i) by omega]
  · by_cases h1 : j = i
    · subst h1; simp [h0]
    · simp [h0, h1]
/-- The cells that make makes. -/
def zeroC (k : Nat) : Array Value := madeCells (Value.int .i64 0).cells (k * 1)
theorem zeroC_get {k j : Nat} (h : j < k) : (zeroC k)[j]? = some (.int .i64 0) := by
  simp [zeroC, madeCells, Value.cells, h, Nat.mod_one]
/-- The world behind make([]int64, k). -/
def mkW (w : World) (k : Nat) : World := w.alloc (.cells (zeroC k) 2)
theorem mkW_size (w : World) (k : Nat) : (mkW w k).heap.size = w.heap.size + 1 := by simp [mkW]
theorem mkW_row (w : World) (k : Nat) : RowN (mkW w k) w.heap.size k (fun _ => 0) := fun j hj => by
  unfold mkW
  rw [World.cell?_alloc_at _ _ _ _ rfl, zeroC_get hj]
theorem mkW_free (w : World) (k j : Nat) : (mkW w k).frozen? ⟨w.heap.size, j, none⟩ = false := by
  unfold mkW
  rw [World.frozen?_alloc_at _ _ _ _ rfl]
theorem mkW_below {B : Nat} {a w : World} (h : Below B a w) (hB : B ≤ w.heap.size) (k : Nat) : Below B a (mkW w k) := h.alloc hB _

set_option maxRecDepth 100000 in
set_option maxHeartbeats 1000000 in
theorem rfalse_any (c p d n s l m k : Int) (draws : Nat) (hc : c = 1 ∨ c = 2) (h : sensB p d n s l m k = true) (hd1 : 1 ≤ draws) (hd2 : draws ≤ 12) (w : World) :
    Calls Try.prog 45 #[.agg (sv c p d n s l m k), .int .i64 draws] w fun e w' =>
      e = .returned (.tuple #[.int .i64 (falseV n s m k draws), .int .i64 (powF (2 * n + 1) draws), .int .i64 0]) ∧ Below w.heap.size w w' := by
  obtain ⟨⟨p0, p1⟩, ⟨d0, d1⟩, ⟨n0, n1⟩, ⟨s0, s1⟩, ⟨l0, l1⟩, ⟨m0, m1⟩, ⟨k0, k1⟩, -, -⟩ := fit_of (c := c) (r := 0) (g := 0) h (by decide)
  obtain ⟨k, rfl⟩ : ∃ K : Nat, k = (K : Int) := ⟨k.toNat, by omega⟩
  have hmk : ∀ w : World, (Instr.makeSlice 106 (.int .i64 (k : Int)) (.int .i64 (k : Int))).run Try.prog w = .ok (.slice (some ⟨w.heap.size, 0, none⟩) k k) (mkW w k) := by
    intro w
    have hi2 : (Try.prog.info? 2).map (fun i => (i.zero, i.size, i.bytes)) = some (some (.int .i64 0), 1, 8) := by kernel_rfl
    obtain ⟨i0, hi, hx⟩ := Option.map_eq_some_iff.1 hi2
    simp only [Prod.mk.injEq] at hx
    obtain ⟨hz0, hz1, hz2⟩ := hx
    have := run_make (P := Try.prog) w 106 2 i0 (.int .i64 0) Try.underlying106 hi hz0 .i64 .i64 (k : Int) (k : Int) (by omega) (by omega) (by rw [hz2]; omega) (by omega)
    rw [Int.toNat_natCast, hz1] at this
    exact this
  go_enter Try.func45, Try.ntmps45
  go_wp2_with (go_at_call 17; refine (rsensor_ok1 _ _ _ _ _ _ _ _ hc h _).mono ?_; rintro e w' ⟨rfl, rfl⟩)
  obtain ⟨W0, hW0⟩ : ∃ W0 : World, (w.alloc (Obj.cells (sv c p d n s l m ↑k) 29)).alloc (Obj.cells (sv c p d n s l m ↑k) 29) = W0 := ⟨_, rfl⟩
  have q3 : W0.cell? ⟨w.heap.size, 3, none⟩ = some (.int .i64 n) := by rw [← hW0]; simp [go_sem]
  have q4 : W0.cell? ⟨w.heap.size, 4, none⟩ = some (.int .i64 s) := by rw [← hW0]; simp [go_sem]
  have q6 : W0.cell? ⟨w.heap.size, 6, none⟩ = some (.int .i64 m) := by rw [← hW0]; simp [go_sem]
  have q7 : W0.cell? ⟨w.heap.size, 7, none⟩ = some (.int .i64 (k : Int)) := by rw [← hW0]; simp [go_sem]
  have hbw : Below w.heap.size w W0 := by rw [← hW0]; go_grown
  have hlt : w.heap.size < W0.heap.size := by rw [← hW0]; simp; omega
  rw [hW0]
  clear hW0
  go_loopg [8, 9] (2 * n + 1).toNat (fun gg v9 v10 wr => ∃ (q hh : Int), v10 = .int .i64 q ∧ v9 = .int .i64 hh ∧ q + gg = n + 1 ∧ -n ≤ q ∧ 0 ≤ hh ∧ hh + gg ≤ 31 ∧ W0 = wr ∧ Aside (highF s m gg q hh = highV n s m))
  case atStart => exact ⟨-n, 0, rfl, rfl, by omega, by omega, by omega, by omega, rfl, rfl⟩
  case round =>
    obtain ⟨q, hh, rfl, rfl, hqg, hq0, hh0, hh1, rfl, HH⟩ := hrel
    obtain ⟨e0, e1⟩ := mul_abs (show (-16 : Int) ≤ q by omega) (show q ≤ 16 by omega) (show (0 : Int) ≤ s by omega) s1
    cases gk with
    | succ gk =>
      have hqn : q ≤ n := by omega
      by_cases hcd : m ≤ q * s
      · go_wp2_with fail
        go_roundg gk
        case measure => omega
        case rel =>
          refine ⟨q + 1, hh + 1, rfl, rfl, by omega, by omega, by omega, by omega, rfl, ?_⟩
          show _ = _
          rw [← HH.out]
          simp [highF, hcd]
      · go_wp2_with fail
        go_roundg gk
        case measure => omega
        case rel =>
          refine ⟨q + 1, hh, rfl, rfl, by omega, by omega, by omega, by omega, rfl, ?_⟩
          show _ = _
          rw [← HH.out]
          simp only [highF]
          rw [if_neg (by omega)]
    | zero =>
      have hqn : n < q := by omega
      have hk1 : 0 < k := by omega
      have k1 : (mkW W0 k).cell? ⟨W0.heap.size, 0, none⟩ = some (.int .i64 0) := mkW_row W0 k 0 hk1
      have k2 := mkW_free W0 k 0
      have k3 : (mkW W0 k).cell? ⟨w.heap.size, 7, none⟩ = some (.int .i64 (k : Int)) := ((mkW_below (Below.refl W0.heap.size W0) (Nat.le_refl _) k).cell (p := ⟨_, _, _⟩) hlt).trans q7
      have hk1' : (0 : Int) < (k : Int) := by omega
      have HV : Aside (hh = highV n s m) := HH
      clear HH
      go_wp2_with fail
      clear hqg hq0 hqn e0 e1
      obtain ⟨V0, V1⟩ : 1 ≤ 2 * n + 1 ∧ 2 * n + 1 ≤ 31 := by omega
      have hhV : hh ≤ 2 * n + 1 := by have := (high_bd s m (2 * n + 1).toNat (-n) 0 (by omega)).2; rw [HV.out]; unfold highV; omega
      go_loopg [10, 11, 12, 13] draws (fun gg v10 v11 v12 v13 wr => ∃ (i b : Nat) (R : Nat → Int), i + gg = draws ∧ v13 = .int .i64 i ∧ v10 = .int .i64 (powF (2 * n + 1) i) ∧ v11 = .int .i64 (R k) ∧ v12 = .slice (some ⟨b, 0, none⟩) k k ∧
        W0.heap.size ≤ b ∧ b < wr.heap.size ∧ Below W0.heap.size W0 wr ∧ RowN wr b k R ∧ Rows0 R k (powF 31 i) ∧ Aside (rowsF (2 * n + 1) hh k gg R = rowsF (2 * n + 1) hh k draws row0))
      case atStart =>
        refine ⟨0, W0.heap.size, row0, by omega, rfl, rfl, ?_, rfl, Nat.le_refl _, by simp [mkW_size], (mkW_below (Below.refl _ _) (Nat.le_refl _) k).setCell (Nat.le_refl _) _, (mkW_row W0 k).set hk1 1, ⟨?_, ?_⟩, rfl⟩
        · rw [show row0 k = 0 from upd_other _ _ (by omega)]
        · intro j
          show 0 ≤ row0 j
          unfold row0 upd
          split
          · omega
          · exact Int.le_refl 0
        · have := sum_upd (fun _ => 0) 0 1 k (Nat.zero_le _)
          simp only [sum_zero] at this
          show sumF (upd (fun _ => 0) 0 1) k ≤ 1
          exact Int.le_of_eq (by simpa using this)
      case round =>
        obtain ⟨i, b, R, hi, rfl, rfl, rfl, rfl, hb0, hb1, hbx, hR, hrow, HR⟩ := hrel
        obtain ⟨wo, rfl⟩ : ∃ wo : World, wo = wr := ⟨_, rfl⟩
        have t3 : wo.cell? ⟨w.heap.size, 3, none⟩ = some (.int .i64 n) := (hbx.cell (p := ⟨_, _, _⟩) hlt).trans q3
        have t7 : wo.cell? ⟨w.heap.size, 7, none⟩ = some (.int .i64 (k : Int)) := (hbx.cell (p := ⟨_, _, _⟩) hlt).trans q7
        have hltx : w.heap.size < wo.heap.size := by omega
        cases gk with
        | zero =>
          obtain rfl : i = draws := by omega
          have HE : Aside (falseV n s m k i = R k) := by
            show _ = _
            unfold falseV
            rw [← HV.out, Int.toNat_natCast, ← HR.out]
            rfl
          have hbE := hbw.trans (hbx.mono (by omega))
          clear HR hR
          go_wp2_with fail
          go_ret3
          rw [HE.out]
          exact ⟨rfl, hbE⟩
        | succ gO =>
          have hid : (i : Int) < (draws : Int) := by omega
          have pw : powF 31 (i + 1) ≤ powF 31 12 := pow31_mono (by omega)
          have pw2 := pow12
          have pw1 : powF 31 (i + 1) = powF 31 i * 31 := rfl
          have z0 := rows0_le hrow (Nat.le_refl k)
          have HRA : Aside (RowN wo b k R) := hR
          clear hR
          obtain ⟨z1, z2⟩ := mul_bd z0.1 z0.2 (show (0 : Int) ≤ 2 * n + 1 by omega) V1
          obtain ⟨w0, w1⟩ := pow_bd V0 V1 i
          obtain ⟨w2, w3⟩ := pow_bd V0 V1 (i + 1)
          have we : powF (2 * n + 1) (i + 1) = powF (2 * n + 1) i * (2 * n + 1) := rfl
          rw [we] at w2 w3
          clear we
          go_wp2_with fail
          have hR : RowN (mkW wo k) b k R := fun j hj => (show (mkW wo k).cell? ⟨b, j, none⟩ = wo.cell? ⟨b, j, none⟩ from World.cell?_alloc_past _ _ _ hb1).trans (HRA.out j hj)
          go_loopg [11, 16] k (fun g2 v11 v16 wy => ∃ (ρ : Nat) (N : Nat → Int), ρ + g2 = k ∧ v16 = .int .i64 ρ ∧ v11 = .int .i64 (N k) ∧ Below W0.heap.size W0 wy ∧ wy.heap.size = wo.heap.size + 1 ∧ RowN wy b k R ∧ RowN wy wo.heap.size k N ∧ Free wy wo.heap.size ∧
            Rows0 N k ((2 * n + 1) * (R k + pre R ρ)) ∧ Aside (innerF R (2 * n + 1) hh g2 ρ N = drawF (2 * n + 1) hh k R))
          case atStart =>
            refine ⟨0, upd (fun _ => 0) k (R k * (2 * n + 1)), by omega, rfl, by rw [upd_same], mkW_below hbx (by omega) k, mkW_size wo k, hR, (mkW_row wo k).above (Nat.le_refl _) _, mkW_free wo k, ⟨?_, ?_⟩, rfl⟩
            · intro j
              unfold upd
              split
              · exact z1
              · exact Int.le_refl 0
            · have := sum_upd (fun _ => 0) k (R k * (2 * n + 1)) k (Nat.le_refl _)
              simp only [sum_zero, Int.zero_add] at this
              rw [this]
              simp only [pre, Int.add_zero]
              rw [Int.mul_comm]
              exact Int.le_refl _
          case round =>
            clear hR
            obtain ⟨ρ, N, hρ, rfl, rfl, hby, hsy, hRy, hNy, hGy, hrn, HI⟩ := hrel
            obtain ⟨wy, rfl⟩ : ∃ wy : World, wy = wr := ⟨_, rfl⟩
            have t7y : wy.cell? ⟨w.heap.size, 7, none⟩ = some (.int .i64 (k : Int)) := (hby.cell (p := ⟨_, _, _⟩) hlt).trans q7
            cases gk with
            | zero =>
              obtain rfl : ρ = k := by omega
              have HD : Aside (N = drawF (2 * n + 1) hh ρ R) := HI
              clear HI
              go_wp2_with fail
              go_roundg gO
              case measure => omega
              case rel =>
                refine ⟨i + 1, wo.heap.size, N, by omega, by first | rfl | go_num, rfl, rfl, rfl, by omega, by omega, hby, hNy, ⟨hrn.1, ?_⟩, ?_⟩
                · have a2 := pre_sum R ρ
                  have a3 := hrow.2
                  have a5 : R ρ + pre R ρ = sumF R ρ := by omega
                  have := (mul_bd (show (0 : Int) ≤ 2 * n + 1 by omega) V1 (sum_nonneg hrow.1 ρ) a3).2
                  have a6 := hrn.2
                  rw [a5] at a6
                  omega
                · show _ = _
                  rw [← HR.out, HD.out]
                  rfl
            | succ gk =>
              have hρk : (ρ : Int) < (k : Int) := by omega
              have hρ1 : 0 ≤ (ρ : Int) + 1 := by omega
              obtain ⟨r0, r1⟩ := rows0_le hrow (show ρ ≤ k by omega)
              obtain ⟨x0, x1⟩ := mul_bd r0 r1 hh0 (show hh ≤ 31 by omega)
              obtain ⟨y0, y1⟩ := mul_bd r0 r1 (show (0 : Int) ≤ 2 * n + 1 - hh by omega) (show 2 * n + 1 - hh ≤ 31 by omega)
              obtain ⟨n10, n11⟩ := rows0_le hrn (show ρ + 1 ≤ k by omega)
              obtain ⟨n20, n21⟩ := rows0_le hrn (Nat.zero_le k)
              obtain ⟨n30, n31⟩ := rows0_le hrn (Nat.le_refl k)
              have xy : R ρ * hh + R ρ * (2 * n + 1 - hh) = (2 * n + 1) * R ρ := by rw [← Int.mul_add, show hh + (2 * n + 1 - hh) = 2 * n + 1 by omega, Int.mul_comm]
              have B1 : (2 * n + 1) * (R k + pre R (ρ + 1)) = (2 * n + 1) * (R k + pre R ρ) + (R ρ * hh + R ρ * (2 * n + 1 - hh)) := by
                rw [xy, ← Int.mul_add]
                congr 1
                simp only [pre]
                omega
              have B2 : (2 * n + 1) * (R k + pre R (ρ + 1)) ≤ 31 * powF 31 i := by
                have a1 := pre_mono hrow.1 (show ρ + 1 ≤ k by omega)
                have a2 := pre_sum R k
                have a3 := hrow.2
                have a4 : 0 ≤ pre R (ρ + 1) := by have := pre_mono hrow.1 (Nat.zero_le (ρ + 1)); simpa [pre] using this
                exact (mul_bd (show (0 : Int) ≤ 2 * n + 1 by omega) V1 (by have := hrow.1 k; omega) (by omega)).2
              have U1 : N (ρ + 1) + R ρ * hh ≤ 787662783788549761 := by omega
              have U2 : N 0 + R ρ * (2 * n + 1 - hh) ≤ 787662783788549761 := by omega
              have U3 : R ρ * hh ≤ 787662783788549761 := by omega
              have U4 : R ρ * (2 * n + 1 - hh) ≤ 787662783788549761 := by omega
              have U7 : N k + R ρ * hh ≤ 787662783788549761 := by omega
              have hB : Aside ((2 * n + 1) * (R k + pre R (ρ + 1)) = (2 * n + 1) * (R k + pre R ρ) + R ρ * hh + R ρ * (2 * n + 1 - hh)) := by
                show _ = _
                omega
              clear xy B1 B2 x1 y1 n11 n21 n31
              have c1 := hRy ρ (by omega)
              have c2 := hNy 0 hk1
              have c3 := hGy 0
              go_wp2_with fail
              go_region
              clear c1 c2 c3
              obtain ⟨W5, hW5⟩ : ∃ W5 : World, (wy.setCell ⟨wo.heap.size, 0, none⟩ (.int .i64 (N 0 + R ρ * (2 * n + 1 - hh)))).drew = W5 := ⟨_, rfl⟩
              have e1 : upd N 0 (N 0 + R ρ * (2 * n + 1 - hh)) (ρ + 1) = N (ρ + 1) := upd_other _ _ (by omega)
              have hb5 : Below W0.heap.size W0 W5 := by rw [← hW5]; exact (hby.setCell (by simp; omega) _).drew
              have hs5 : W5.heap.size = wo.heap.size + 1 := by rw [← hW5]; simpa using hsy
              have hR5 : RowN W5 b k R := by rw [← hW5]; exact (hRy.far (by omega) _).drew
              have hN5 : RowN W5 wo.heap.size k (upd N 0 (N 0 + R ρ * (2 * n + 1 - hh))) := by rw [← hW5]; exact (hNy.set hk1 _).drew
              have hG5 : Free W5 wo.heap.size := by rw [← hW5]; exact (hGy.set _ _).drew
              have t7z : W5.cell? ⟨w.heap.size, 7, none⟩ = some (.int .i64 (k : Int)) := (hb5.cell (p := ⟨_, _, _⟩) hlt).trans q7
              rw [hW5]
              clear hW5 hby hsy hRy hNy hGy t7y t7 t3
              have c1 := hR5 ρ (by omega)
              have E1 : Aside (upd N 0 (N 0 + R ρ * (2 * n + 1 - hh)) (ρ + 1) = N (ρ + 1)) := e1
              by_cases hl : ρ + 1 = k
              · have hl1 : ((ρ : Int) + 1 == (k : Int)) = true := by rw [beq_iff_eq]; omega
                have HL : Aside (ρ + 1 = k) := hl
                clear hl e1
                go_wp2_with fail
                go_roundg gk
                case measure => omega
                case rel =>
                  refine ⟨ρ + 1, upd (upd N (ρ + 1) (N (ρ + 1) + R ρ * hh)) 0 (upd N (ρ + 1) (N (ρ + 1) + R ρ * hh) 0 + R ρ * (2 * n + 1 - hh)), by omega, by first | rfl | go_num, ?_, hb5, hs5, hR5, ?_, hG5, ?_, HI⟩
                  · rw [upd_comm _ _ _ _ (by omega), ← HL.out, upd_same, E1.out]
                  · rw [upd_comm _ _ _ _ (by omega)]
                    exact hN5.above (by have := HL.out; omega) _
                  · rw [hB.out]
                    exact rows0_upd (rows0_upd hrn (by omega) x0) (by omega) y0
              · have hl1 : ((ρ : Int) + 1 == (k : Int)) = false := by rw [beq_eq_false_iff_ne]; omega
                have hlk : (ρ : Int) + 1 < (k : Int) := by omega
                have c2 := hN5 (ρ + 1) (by omega)
                rw [e1] at c2
                have c3 := hG5 (ρ + 1)
                clear hl e1
                go_wp2_with fail
                go_region
                clear c1 c2 c3
                go_wp2_with fail
                go_roundg gk
                case measure => omega
                case rel =>
                  refine ⟨ρ + 1, upd (upd N (ρ + 1) (N (ρ + 1) + R ρ * hh)) 0 (upd N (ρ + 1) (N (ρ + 1) + R ρ * hh) 0 + R ρ * (2 * n + 1 - hh)), by omega, by first | rfl | go_num, ?_, (hb5.setCell (by simp; omega) _).drew, by simpa using hs5, (hR5.far (by omega) _).drew, ?_, (hG5.set _ _).drew, ?_, HI⟩
                  · rw [upd_other _ _ (by omega), upd_other _ _ (by omega)]
                  · rw [upd_comm _ _ _ _ (by omega), E1.out]
                    exact (hN5.set (by omega) _).drew
                  · rw [hB.out]
                    exact rows0_upd (rows0_upd hrn (by omega) x0) (by omega) y0
end Go.Proofs.Ytdjmidoegidlbaa
