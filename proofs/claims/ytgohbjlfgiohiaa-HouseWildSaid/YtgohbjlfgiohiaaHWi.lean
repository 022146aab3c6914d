/- HouseWild holds for every input: the wild well is the document's, or the error; and the examples hold. No condition. -/
import Derived.Test.YtgohbjlfgiohiaaHw
import Derived.Test.YtgohbjlfgiohiaaHx
import Derived.Test.YtgohbjlfgiohiaaHk
import Derived.Test.YtgohbjlfgiohiaaKr
namespace Go.Proofs.Ytgohbjlfgiohiaa
open Go.ChangeShapes Go.WideShapes Go.ChangeAt Go.RowKit

set_option maxRecDepth 100000 in
set_option maxHeartbeats 4000000 in
theorem wild_row (w : World) (l : Int) (hl : IntKind.i64.has l) (r : Int) (hr : IntKind.i64.has r) (t : Int) (ht : IntKind.i64.has t) :
    Calls Try.prog 4 #[.int .i64 l, .int .i64 r, .int .i64 t] w fun e w' => e = .returned (.bool true) ∧ Below w.heap.size w w' := by
  by_cases hok : BadW l r t
  · have H : Aside (BadW l r t) := hok
    clear hok hl hr ht
    go_enter Try.func4, Try.ntmps4
    go_wp2_with fail
    refine (wild_bad l r t H.out w).mono ?_
    rintro e w1 ⟨rfl, hb1⟩
    go_wp2_with fail
    refine (rwild_bad l r t H.out _).mono ?_
    rintro e w2 ⟨rfl, hb2⟩
    go_upto_region 3 with fail
    obtain ⟨W, hW⟩ : ∃ W, W = w2.alloc (.cells #[.slice none 0 0, .slice none 0 0] 25) := ⟨_, rfl⟩
    obtain ⟨V, hV⟩ : ∃ V, V = w1.alloc (.cells #[.slice none 0 0, .slice none 0 0] 25) := ⟨_, rfl⟩
    rw [← hV] at hb2
    have b2 : Below w2.heap.size w2 W := by rw [hW]; go_grown
    have b1 : Below w1.heap.size w1 V := by rw [hV]; go_grown
    have v0 : V.cell? ⟨w1.heap.size, 0, none⟩ = some (.slice none 0 0) := by rw [hV]; simp [go_sem]
    have v1 : V.cell? ⟨w1.heap.size, 1, none⟩ = some (.slice none 0 0) := by rw [hV]; simp [go_sem]
    have hVW := below_next hb2 b2
    have x0 := (hVW.cell (p := ⟨_, _, _⟩) (lt_of_cell v0)).trans v0
    have x1 := (hVW.cell (p := ⟨_, _, _⟩) (lt_of_cell v1)).trans v1
    have y0 : W.cell? ⟨w2.heap.size, 0, none⟩ = some (.slice none 0 0) := by rw [hW]; simp [go_sem]
    have y1 : W.cell? ⟨w2.heap.size, 1, none⟩ = some (.slice none 0 0) := by rw [hW]; simp [go_sem]
    have hbW : Below w.heap.size w W := below_next (below_next hb1 b1) hVW
    rw [← hW]
    clear hW hV hb2 b2 b1 v0 v1 hVW hb1
    go_wp2_with (go_at_call 20; refine (sameLists_nil _).mono ?_; rintro e w' ⟨rfl, m, rfl⟩)
    go_loopg [11] 0 (fun q v wr => v = .int .i64 0 ∧ wr = W.drewN m)
    case atStart => exact ⟨rfl, rfl⟩
    case round =>
      obtain ⟨rfl, hwr⟩ := hrel
      have z0 : wr.cell? ⟨w1.heap.size, 0, none⟩ = some (.slice none 0 0) := by rw [hwr]; exact x0
      have hbr : Below w.heap.size w wr := by rw [hwr]; exact hbW.trans (below_drewN m _)
      clear hwr x0 x1 y0 y1
      go_wp2_with (go_at_call 8; refine (awake10 _).mono ?_; rintro e w6 ⟨rfl, hb6⟩)
      go_ret
      exact ⟨rfl, below_next hbr hb6⟩
  · obtain ⟨g1, g2, g3, g4, g5, g6⟩ : 1 ≤ l ∧ l ≤ 15 ∧ 1 ≤ r ∧ r ≤ 15 ∧ 0 ≤ t ∧ t ≤ 3 := by
      unfold BadW at hok
      exact Decidable.not_not.1 hok
    obtain ⟨L, rfl⟩ : ∃ L : Nat, l = (L : Int) := ⟨l.toNat, by omega⟩
    obtain ⟨R, rfl⟩ : ∃ R : Nat, r = (R : Int) := ⟨r.toNat, by omega⟩
    obtain ⟨T, rfl⟩ : ∃ T : Nat, t = (T : Int) := ⟨t.toNat, by omega⟩
    obtain ⟨N, hN⟩ : ∃ N, N = (L + 1) * (T + 1) := ⟨_, rfl⟩
    have hN2 : N ≤ 64 := by rw [hN]; exact Nat.le_trans (Nat.mul_le_mul (show L + 1 ≤ 16 by omega) (show T + 1 ≤ 4 by omega)) (by omega)
    have hA := wild_ok L R T (by omega) (by omega) (by omega) (by omega) (by omega) w
    have hB := fun w => rwild_ok L R T (by omega) (by omega) (by omega) (by omega) (by omega) w
    unfold WildOut at hA hB
    rw [← hN] at hA
    simp only [← hN] at hB
    have HA : Aside (Calls Try.prog 18 #[.int .i64 L, .int .i64 R, .int .i64 T] w fun e w' => ∃ lb mb lc mc P C, e = .returned (.tuple #[.agg (bv lb 0 mb 0 N lc mc), .int .i64 0]) ∧ BIs w' lb 0 mb 0 N (wLost L T) P (fun _ => 0) C (fun _ => 2) (wMv L R T) ∧ Below w.heap.size w w') := hA
    have HB : Aside (∀ w, Calls Try.prog 19 #[.int .i64 L, .int .i64 R, .int .i64 T] w fun e w' => ∃ lb mb lc mc P C, e = .returned (.tuple #[.agg (bv lb 0 mb 0 N lc mc), .int .i64 0]) ∧ BIs w' lb 0 mb 0 N (wLost L T) P (fun _ => 0) C (fun _ => 2) (wMv L R T) ∧ Below w.heap.size w w') := hB
    clear hA hB hok hl hr ht hN g1 g2 g3 g4 g5 g6
    go_enter Try.func4, Try.ntmps4
    go_wp2_with fail
    refine HA.out.mono ?_
    rintro e w1 ⟨lb, mb, lc, mc, P, C, rfl, hI1, hb1⟩
    go_wp2_with fail
    refine (HB.out _).mono ?_
    rintro e w2 ⟨lb', mb', lc', mc', P', C', rfl, hI2, hb2⟩
    go_upto_region 3 with fail
    obtain ⟨W, hW⟩ : ∃ W, W = w2.alloc (.cells (bv lb' 0 mb' 0 N lc' mc') 25) := ⟨_, rfl⟩
    obtain ⟨V, hV⟩ : ∃ V, V = w1.alloc (.cells (bv lb 0 mb 0 N lc mc) 25) := ⟨_, rfl⟩
    rw [← hV] at hb2
    have b2 : Below w2.heap.size w2 W := by rw [hW]; go_grown
    have b1 : Below w1.heap.size w1 V := by rw [hV]; go_grown
    have v0 : V.cell? ⟨w1.heap.size, 0, none⟩ = some (.slice (some ⟨lb, 0, none⟩) N lc) := by rw [hV]; simp [go_sem]
    have v1 : V.cell? ⟨w1.heap.size, 1, none⟩ = some (.slice (some ⟨mb, 0, none⟩) N mc) := by rw [hV]; simp [go_sem]
    have hVW := below_next hb2 b2
    have x0 := (hVW.cell (p := ⟨_, _, _⟩) (lt_of_cell v0)).trans v0
    have x1 := (hVW.cell (p := ⟨_, _, _⟩) (lt_of_cell v1)).trans v1
    have y0 : W.cell? ⟨w2.heap.size, 0, none⟩ = some (.slice (some ⟨lb', 0, none⟩) N lc') := by rw [hW]; simp [go_sem]
    have y1 : W.cell? ⟨w2.heap.size, 1, none⟩ = some (.slice (some ⟨mb', 0, none⟩) N mc') := by rw [hW]; simp [go_sem]
    have hbW : Below w.heap.size w W := below_next (below_next hb1 b1) hVW
    have HI1 : Aside (BIs W lb 0 mb 0 N (wLost L T) P (fun _ => 0) C (fun _ => 2) (wMv L R T)) := (hI1.below b1).below hVW
    have HI2 : Aside (BIs W lb' 0 mb' 0 N (wLost L T) P' (fun _ => 0) C' (fun _ => 2) (wMv L R T)) := hI2.below b2
    have hSL := sameLists_ok mb mc mb' mc' P C P' C' (fun _ => 2) (wMv L R T) W (by omega) (fun _ _ => by simp) (fun i hi => HI1.out.moves0 hi) (fun i hi => HI2.out.moves0 hi) (fun i k hi hk => HI1.out.mv0 hi hk) (fun i k hi hk => HI2.out.mv0 hi hk)
    have HS : Aside (Calls Try.prog 20 #[.slice (some ⟨mb, 0, none⟩) N mc, .slice (some ⟨mb', 0, none⟩) N mc'] W fun e w' => e = .returned (.bool true) ∧ ∃ m, w' = W.drewN m) := hSL
    rw [← hW]
    clear hW hV hb2 b2 b1 v0 v1 hVW hb1 hI1 hI2 hSL HA HB
    go_wp2_with (go_at_call 20; refine HS.out.mono ?_; rintro e w' ⟨rfl, m, rfl⟩)
    go_loopg [11] N (fun q v wr => ∃ (k j : Nat), v = .int .i64 k ∧ k + q = N ∧ wr = W.drewN j)
    case atStart => exact ⟨0, m, rfl, by omega, rfl⟩
    case round =>
      obtain ⟨k, j, rfl, hk, hwr⟩ := hrel
      have HW : Aside (wr = W.drewN j) := hwr
      have z0 : wr.cell? ⟨w1.heap.size, 0, none⟩ = some (.slice (some ⟨lb, 0, none⟩) N lc) := by rw [hwr]; exact x0
      have z1 : wr.cell? ⟨w2.heap.size, 0, none⟩ = some (.slice (some ⟨lb', 0, none⟩) N lc') := by rw [hwr]; exact y0
      by_cases hend : k < N
      · have hend' : (k : Int) < N := by omega
        obtain ⟨q, rfl⟩ : ∃ q, gk = q + 1 := ⟨gk - 1, by omega⟩
        have c0 : wr.cell? ⟨lb, k, none⟩ = some (.bool (wLost L T k)) := by rw [hwr]; exact HI1.out.lost0 hend
        have c1 : wr.cell? ⟨lb', k, none⟩ = some (.bool (wLost L T k)) := by rw [hwr]; exact HI2.out.lost0 hend
        obtain ⟨x, hx⟩ : ∃ x, x = wLost L T k := ⟨_, rfl⟩
        rw [← hx] at c0 c1
        clear hx hwr x0 x1 y0 y1
        go_upto_region 8 with fail
        cases x
        all_goals
          go_quiet (fail)
          go_wp2_with fail
          go_roundg q
          case measure => omega
          case rel => exact ⟨k + 1, j + _, by simp, by omega, by rw [HW.out, World.drewN_drewN]⟩
      · have hend' : ¬ (k : Int) < N := by omega
        have hbr : Below w.heap.size w wr := by rw [hwr]; exact hbW.trans (below_drewN j _)
        clear hwr x0 x1 y0 y1
        go_wp2_with (go_at_call 8; refine (awake10 _).mono ?_; rintro e w6 ⟨rfl, hb6⟩)
        go_ret
        exact ⟨rfl, below_next hbr hb6⟩
set_option maxRecDepth 100000 in
theorem liftedHouseWild (os : Os) (started : os.Started) (H : Type) (enc : TypeId × Value → H) :
    ReturnsInHanded {} Try.checked os 4 .any (Rows.houseWildSpec.pre6 enc Try.prog Try.f4 Rows.houseWildRow.domain false) (Rows.houseWildSpec.post enc Try.prog Try.f4 false true false false) := by
  refine returnsInHanded_of_change (C := Try.checked) own started (by kernel_rfl) Try.func4
    (ChangeSpec.witness6 (enc := enc) (C := Try.checked) false ⟨#[], #[.int .i64 0, .int .i64 0, .int .i64 0], []⟩ 16 (by kernel_rfl) (by kernel_rfl) (by kernel_rfl) (by kernel_rfl)) ?_
  intro W base args ds gs before hval0 hW hcnd _
  have hval : ∀ (j : Nat) t v, Try.f4.params[j]? = some t → args[j]? = some v → Value.okWide Try.prog W .any base t v := hval0
  have hW' := hW
  obtain ⟨p, q, hA0, hV, rfl, hfz, hnd⟩ := hW
  have hA : DataW.TrodAll enc Try.prog W 0 (fun _ => true) true Try.f4.params.toList args.toList ds p := hA0
  rw [Try.params4] at hA hval
  obtain ⟨v0, vs0, d0, ds0, p0, q0, hargs, rfl, rfl, h0, r0⟩ := trodAll_cons hA
  obtain ⟨v1, vs1, d1, ds1, p1, q1, rfl, rfl, rfl, h1, r1⟩ := trodAll_cons r0
  obtain ⟨v2, vs2, d2, ds2, p2, q2, rfl, rfl, rfl, h2, r2⟩ := trodAll_cons r1
  obtain ⟨rfl, rfl, rfl⟩ := trodAll_nil r2
  obtain rfl : args = #[v0, v1, v2] := by cases args; simp_all
  obtain ⟨rfl, rfl⟩ := trodVars_none hV
  have k0 := h0
  have lt0 : ∀ x ∈ p0, x.block < W.heap.size := by obtain ⟨m, hm⟩ := k0; exact DataW.trod_lt m _ _ _ hm
  obtain ⟨a0, rfl, b0⟩ := val_int (by kernel_rfl) (hval 0 _ v0 rfl rfl)
  have k1 := h1
  have lt1 : ∀ x ∈ p1, x.block < W.heap.size := by obtain ⟨m, hm⟩ := k1; exact DataW.trod_lt m _ _ _ hm
  obtain ⟨a1, rfl, b1⟩ := val_int (by kernel_rfl) (hval 1 _ v1 rfl rfl)
  have k2 := h2
  have lt2 : ∀ x ∈ p2, x.block < W.heap.size := by obtain ⟨m, hm⟩ := k2; exact DataW.trod_lt m _ _ _ hm
  obtain ⟨a2, rfl, b2⟩ := val_int (by kernel_rfl) (hval 2 _ v2 rfl rfl)
  clear hA0 hval0
  refine (wild_row W a0 b0 a1 b1 a2 b2).mono fun e W' ⟨he, bel⟩ => ?_
  subst he
  exact ⟨_, rfl, _, _, _, [], _, [], hW', trodAll_mk1 (shut_bool Try.underlying4 _), (trodAll_cons_mk (Below.trod laidOut (by kernel_rfl) (of_decide_eq_true (by kernel_rfl)) k0 bel lt0) (trodAll_cons_mk (Below.trod laidOut (by kernel_rfl) (of_decide_eq_true (by kernel_rfl)) k1 bel lt1) (trodAll_cons_mk (Below.trod laidOut (by kernel_rfl) (of_decide_eq_true (by kernel_rfl)) k2 bel lt2) trodAll_mk0))), rfl, bel.frame _, fun h => by cases h⟩

/-- HouseWild returns true for every input. -/
theorem houseWild_holds : Rows.HouseWildSaid :=
  OpenClaim.holds_of_wide 4 Try.f4 rfl rfl rfl rfl rfl rfl rfl ⟨rfl, rfl, rfl, rfl, rfl⟩ rfl rfl rfl rfl rfl (by kernel_rfl) Try.func4 (by kernel_rfl)
    (of_decide_eq_true (by kernel_rfl)) (by unfold Func.isWrapper; first | (rw [if_pos (by decide +kernel)]; kernel_rfl) | (rw [if_neg (by decide +kernel)]; exact ⟨rfl, rfl⟩))
    (fun os started H enc _ => liftedHouseWild os started H enc)

end Go.Proofs.Ytgohbjlfgiohiaa
