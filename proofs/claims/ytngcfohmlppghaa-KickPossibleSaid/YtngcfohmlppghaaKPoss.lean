/- KickPossible returns true for every sensor, kick and beginning, every list of samples and of numbers, and every change of one sample. -/
import Derived.Test.YtngcfohmlppghaaPa
import Derived.Test.YtngcfohmlppghaaSn
import Derived.Test.YtngcfohmlppghaaKg
import Derived.Test.YtngcfohmlppghaaKr
import Derived.BigRegion
namespace Go.Proofs.Ytngcfohmlppghaa
open Go.ChangeShapes Go.WideShapes Go.ChangeAt Go.RowKit

set_option maxRecDepth 100000 in
set_option maxHeartbeats 2000000 in
theorem poss_long (w : World) (sv0 kv0 by0 : Array Value) (bg at0 : Int) (a : Option Addr) (len cap : Nat) (a2 : Option Addr) (len2 cap2 : Nat) (hm : len ≤ 9223372036854775807) (hl : 210 < len) :
    Calls Try.prog 4 #[.agg sv0, .agg kv0, .int .i64 bg, .slice a len cap, .slice a2 len2 cap2, .int .i64 at0, .agg by0] w fun e w' => e = .returned (.bool true) ∧ Below w.heap.size w w' := by
  go_enter Try.func4, Try.ntmps4
  go_wp2_with (go_at_call 13; refine (awake_any _).mono ?_; rintro e w3 ⟨rfl, hb3⟩)
  go_ret
  exact ⟨rfl, bel_trans (by go_grown) hb3⟩

set_option maxRecDepth 100000 in
set_option maxHeartbeats 8000000 in
theorem poss_short (w : World) (c p d n s l m k r g bg : Int) (a : Option Addr) (len cap : Nat) (T : Nat → Nat → Int) (h : IsRows 3 w a len cap T) (hT : ∀ i j, i < len → j < 3 → IntKind.i64.has (T i j)) (hl : len ≤ 210)
    (a2 : Option Addr) (len2 cap2 : Nat) (zs : List Int) (hrow : IsRow w a2 len2 cap2 zs) (at0 : Int) (hat : IntKind.i64.has at0) (b0 b1 b2 : Int) :
    Calls Try.prog 4 #[.agg (sv c p d n s l m k), .agg #[.int .i64 r, .int .i64 g], .int .i64 bg, .slice a len cap, .slice a2 len2 cap2, .int .i64 at0, .agg #[.int .i64 b0, .int .i64 b1, .int .i64 b2]] w fun e w' => e = .returned (.bool true) ∧ Below w.heap.size w w' := by
  have hll : (len : Int) ≤ 210 := by omega
  obtain ⟨at1, at2⟩ := has_bd hat
  have hTT : Aside (∀ i j, i < len → j < 3 → IntKind.i64.has (T i j)) := hT
  have HR : Aside (IsRows 3 w a len cap T) := h
  clear hT h hat
  go_enter Try.func4, Try.ntmps4
  go_wp2_with fail
  obtain ⟨W0, hW0⟩ : ∃ W, W = ((w.alloc (.cells (sv c p d n s l m k) 32)).alloc (.cells #[.int .i64 r, .int .i64 g] 29)).alloc (.cells #[.int .i64 b0, .int .i64 b1, .int .i64 b2] 49) := ⟨_, rfl⟩
  have S0 : SC W0 w.heap.size c p d n s l m k := by rw [hW0]; exact ⟨by simp [go_sem, World.cell?_alloc_past], by simp [go_sem, World.cell?_alloc_past], by simp [go_sem, World.cell?_alloc_past], by simp [go_sem, World.cell?_alloc_past], by simp [go_sem, World.cell?_alloc_past], by simp [go_sem, World.cell?_alloc_past], by simp [go_sem, World.cell?_alloc_past], by simp [go_sem, World.cell?_alloc_past], fun j => by simp [go_sem]⟩
  have Q0 : KC W0 (w.heap.size + 1) r g := by rw [hW0]; exact ⟨by simp [go_sem, World.cell?_alloc_past], by simp [go_sem, World.cell?_alloc_past]⟩
  have X0 : XC W0 (w.heap.size + 2) b0 b1 b2 := by rw [hW0]; exact ⟨by simp [go_sem], by simp [go_sem], by simp [go_sem]⟩
  have hb0 : Below w.heap.size w W0 := by rw [hW0]; go_grown
  have hrow0 := isRow_kept hrow hb0
  have HR0 : Aside (IsRows 3 W0 a len cap T) := HR.out.kept hb0
  have hs0 : w.heap.size + 3 = W0.heap.size := by rw [hW0]; simp
  rw [← hW0]
  clear hW0 hrow HR
  refine (newRing_any a2 len2 cap2 zs W0 hrow0).mono ?_
  rintro e w1 ⟨rb, hrb, rfl, k1, r1⟩
  have S1 := S0.below k1; have Q1 := Q0.below k1; have X1 := X0.below k1
  have HR1 : Aside (IsRows 3 w1 a len cap T) := HR0.out.kept k1
  have B1 : Below w.heap.size w w1 := hb0.trans (k1.mono (by omega))
  clear hrow0
  go_wp2_with fail
  refine (kickOf_any rb a2 len2 cap2 zs 0 (by omega) _ r1).mono ?_
  rintro e w2 ⟨jr, jg, jr0, jr1, jg0, jg1, rfl, k2, r2⟩
  go_wp2_with fail
  refine (sensorOf_any rb a2 len2 cap2 zs (0 + 4) (by omega) _ r2).mono ?_
  rintro e w3 ⟨xc, xp, xd, xn, xs, xl, xm, xk, hsb, rfl, k3, r3⟩
  go_wp2_with fail
  refine (next_any rb a2 len2 cap2 zs (0 + 4 + 9) 40 (by omega) (by omega) (by omega) _ r3).mono ?_
  rintro e w4 ⟨jb, jb0, jb1, rfl, k4, r4⟩
  have kk : RKept rb w1 w4 := (k2.trans k3).trans k4
  have hk1 : W0.heap.size ≤ w1.heap.size := k1.size
  have hlt1 : rb < w1.heap.size := r1.lt
  have kb : Below W0.heap.size w1 w4 := kk.below hrb hk1
  have S4 := S1.low kb (by omega); have Q4 := Q1.low kb (by omega)
  have X4 : XC w4 (w.heap.size + 2) b0 b1 b2 := ⟨(kb.cell (p := ⟨_, _, _⟩) (by simp; omega)).trans X1.c0, (kb.cell (p := ⟨_, _, _⟩) (by simp; omega)).trans X1.c1, (kb.cell (p := ⟨_, _, _⟩) (by simp; omega)).trans X1.c2⟩
  have B4 : Below w.heap.size w w4 := B1.trans (kb.mono (by omega))
  clear k2 k3 k4 r1 r2 r3 S1 Q1 X1 kk
  go_wp2_with fail
  clear S4 Q4 X4 HR1
  have KB4 : Below W0.heap.size W0 w4 := k1.trans kb
  clear k1 kb B1 B4
  obtain ⟨W5, hW5⟩ : ∃ W, W = (w4.alloc (.cells #[.int .i64 jr, .int .i64 jg] 29)).alloc (.cells (sv xc xp xd xn xs xl xm xk) 32) := ⟨_, rfl⟩
  obtain ⟨jx, hjx⟩ : ∃ z, z = w4.heap.size := ⟨_, rfl⟩
  have J5 : KC W5 jx jr jg := by rw [hW5, hjx]; exact ⟨by simp [go_sem, World.cell?_alloc_past], by simp [go_sem, World.cell?_alloc_past]⟩
  have Z5 : SC W5 (jx + 1) xc xp xd xn xs xl xm xk := by rw [hW5, hjx]; exact ⟨by simp [go_sem], by simp [go_sem], by simp [go_sem], by simp [go_sem], by simp [go_sem], by simp [go_sem], by simp [go_sem], by simp [go_sem], fun j => by simp [go_sem]⟩
  have k5 : Below w4.heap.size w4 W5 := by rw [hW5]; go_grown
  have r5 := r4.kept k5
  have KB5 : Below W0.heap.size W0 W5 := KB4.trans (k5.mono KB4.size)
  have hrj : rb < jx := by rw [hjx]; exact r4.lt
  rw [← hW5, ← hjx]
  clear hW5 hjx k5 r4 KB4
  refine (samples_any rb a2 len2 cap2 zs (0 + 4 + 9 + 1) (by omega) 3 xc xp xd xn xs xl xm xk jr jg jb 150 hsb (by omega) (by omega) (by omega) (by omega) (by omega) (by omega) W5 r5).mono ?_
  rintro e w6 ⟨L, la, A, ph, jj, v, ph0, ph1, HC, hla, hA1, hA0, hA2, hL, hj, rfl, hown, k6, r6⟩
  obtain ⟨ao, cp, rfl, hrows, hfz⟩ := own_rows hown (by omega)
  have J6 := J5.kept k6 (by omega)
  have Z6 := Z5.kept k6 (by omega)
  have KB6 : Below W0.heap.size W0 w6 := KB5.trans (k6.below hrb KB5.size)
  have hs5 : W0.heap.size ≤ W5.heap.size := KB5.size
  have hjl : jx + 1 < W5.heap.size := Z5.lt
  have HTB : Aside (∀ i j, -1125899906842624 ≤ smT 3 xc jr jg xs ph xp jb L i j ∧ smT 3 xc jr jg xs ph xp jb L i j ≤ 1125899906842624) := by
    obtain ⟨hc, p0, p1, d0, d1, n0, n1, s0, s1, l0, l1, m0, m1, kk0, kk1⟩ := hsb
    exact smT_bd HC (by omega) (by omega) ph0 (by omega) (by omega) jb0 (by omega) (by omega) (by omega) (by omega) (by omega)
  obtain ⟨n6, hn6⟩ : ∃ z, z = L.length := ⟨_, rfl⟩
  rw [← hn6] at hrows hfz hL ⊢
  clear hown k6 r6 J5 Z5 KB5 r5 HC hla hA1 hA0 hA2 hj hn6
  obtain ⟨U, hU⟩ : ∃ z, z = smT 3 xc jr jg xs ph xp jb L := ⟨_, rfl⟩
  rw [← hU] at hrows HTB
  clear hU
  have hl6 : (n6 : Int) ≤ 190 := by omega
  dsimp only
  repeat ((fail_if_success guard_target =~ Code.wp _ (Code.seq (Code.seq _ _) _) _ _ _); go_step)
  apply wp_seq_k; intro _ _
  go_cut [19, 20] (fun s19 s20 wx => s19 = .slice ao n6 cp ∧ ∃ V : Nat → Nat → Int, IsRows 3 wx ao n6 cp V ∧ (∀ i j, i < n6 → j < 3 → IntKind.i64.has (V i j)) ∧ Below W0.heap.size W0 wx ∧ KC wx jx jr jg ∧ SC wx (jx + 1) xc xp xd xn xs xl xm xk)
  · have fin : ∃ V : Nat → Nat → Int, IsRows 3 w6 ao n6 cp V ∧ (∀ i j, i < n6 → j < 3 → IntKind.i64.has (V i j)) ∧ Below W0.heap.size W0 w6 ∧ KC w6 jx jr jg ∧ SC w6 (jx + 1) xc xp xd xn xs xl xm xk := ⟨U, hrows, fun i j _ _ => (show -9223372036854775808 ≤ U i j ∧ U i j ≤ 9223372036854775807 from ⟨by have h := HTB.out i j; omega, by have h := HTB.out i j; omega⟩), KB6, J6, Z6⟩
    have FIN : Aside (∃ V : Nat → Nat → Int, IsRows 3 w6 ao n6 cp V ∧ (∀ i j, i < n6 → j < 3 → IntKind.i64.has (V i j)) ∧ Below W0.heap.size W0 w6 ∧ KC w6 jx jr jg ∧ SC w6 (jx + 1) xc xp xd xn xs xl xm xk) := fin
    clear fin
    by_cases h0 : n6 = 0
    · have h1 : ¬ (0 : Int) < (n6 : Int) := by omega
      have H0 : Aside (n6 = 0) := h0
      go_wp2_with fail
      all_goals go_meet
      all_goals exact ⟨by first | rfl | rw [H0.out], FIN.out⟩
    · have h1 : (0 : Int) < (n6 : Int) := by omega
      by_cases h2 : (0 : Int) < at0.tmod 3
      · obtain ⟨x, hx⟩ : ∃ z, z = at0.tdiv 3 := ⟨_, rfl⟩
        have hx0 : -9223372036854775808 ≤ x ∧ x ≤ 9223372036854775807 := by
          rw [hx]
          by_cases h3 : 0 ≤ at0
          · rw [Int.tdiv_eq_ediv_of_nonneg h3]; omega
          · have h4 : at0.tdiv 3 = -((-at0).tdiv 3) := by rw [Int.neg_tdiv, Int.neg_neg]
            rw [h4, Int.tdiv_eq_ediv_of_nonneg (by omega)]; omega
        obtain ⟨hx1, hx2⟩ := hx0
        have hx' : at0.tdiv 3 = x := hx.symm
        have iw : IntKind.i64.wrap x = x := IntWalk.i64_in _ (by omega)
        have hM := mod_any x (n6 : Int) hx1 hx2 (by omega) (by omega)
        have y0 : 0 ≤ x % (n6 : Int) := Int.emod_nonneg _ (by omega)
        have y1 : x % (n6 : Int) < (n6 : Int) := Int.emod_lt_of_pos _ (by omega)
        obtain ⟨i, hi⟩ : ∃ i : Nat, x % (n6 : Int) = (i : Int) := ⟨(x % (n6 : Int)).toNat, by omega⟩
        rw [hi] at hM y1
        have HM : Aside (∀ w : World, Calls Try.prog 25 #[.int .i64 x, .int .i64 (n6 : Int)] w fun e w' => e = .returned (.int .i64 (i : Int)) ∧ w = w') := fun w => (hM w).mono fun _ _ ⟨he, hw⟩ => ⟨he, hw.symm⟩
        clear hM hx hi y0
        go_upto_region 8 with (go_at_call 25; refine (HM.out _).mono ?_; rintro e w7 ⟨rfl, rfl⟩)
        obtain ⟨gb, hgb, hgb0, hgz⟩ := hfz (by omega)
        subst hgb
        obtain ⟨b', off', hbo, hgl, hcell⟩ := hrows.2.1 (by omega)
        cases hbo
        have hin : i < n6 := by omega
        have X6 : XC w6 (w.heap.size + 2) b0 b1 b2 := ⟨(KB6.cell (p := ⟨_, _, _⟩) (by simp; omega)).trans X0.c0, (KB6.cell (p := ⟨_, _, _⟩) (by simp; omega)).trans X0.c1, (KB6.cell (p := ⟨_, _, _⟩) (by simp; omega)).trans X0.c2⟩
        have v0' := hcell i 0 (by omega) (by omega)
        have v1' := hcell i 1 (by omega) (by omega)
        have v2' := hcell i 2 (by omega) (by omega)
        obtain ⟨t0, t1⟩ := HTB.out i 0
        obtain ⟨t2, t3⟩ := HTB.out i 1
        obtain ⟨t4, t5⟩ := HTB.out i 2
        obtain ⟨u0, hu0⟩ : ∃ z, z = U i 0 := ⟨_, rfl⟩
        obtain ⟨u1, hu1⟩ : ∃ z, z = U i 1 := ⟨_, rfl⟩
        obtain ⟨u2, hu2⟩ : ∃ z, z = U i 2 := ⟨_, rfl⟩
        rw [← hu0] at v0' t0 t1
        rw [← hu1] at v1' t2 t3
        rw [← hu2] at v2' t4 t5
        obtain ⟨e1, he1⟩ : ∃ z, z = b1.tmod 20 := ⟨_, rfl⟩
        obtain ⟨e2, he2⟩ : ∃ z, z = b2.tmod 2000 := ⟨_, rfl⟩
        obtain ⟨e0, he0⟩ : ∃ z, z = b0.tmod 2 := ⟨_, rfl⟩
        have q1 : -2000 ≤ e1 ∧ e1 ≤ 2000 := by have := Int.tmod_lt_of_pos b1 (show (0 : Int) < 20 by decide); have := Int.lt_tmod_of_pos b1 (show (0 : Int) < 20 by decide); omega
        have q2 : -2000 ≤ e2 ∧ e2 ≤ 2000 := by have := Int.tmod_lt_of_pos b2 (show (0 : Int) < 2000 by decide); have := Int.lt_tmod_of_pos b2 (show (0 : Int) < 2000 by decide); omega
        have q0 : -2000 ≤ e0 ∧ e0 ≤ 2000 := by have := Int.tmod_lt_of_pos b0 (show (0 : Int) < 2 by decide); have := Int.lt_tmod_of_pos b0 (show (0 : Int) < 2 by decide); omega
        obtain ⟨q1a, q1b⟩ := q1
        obtain ⟨q2a, q2b⟩ := q2
        obtain ⟨q0a, q0b⟩ := q0
        have f1 : b1.tmod 20 = e1 := he1.symm
        have f2 : b2.tmod 2000 = e2 := he2.symm
        have f0 : b0.tmod 2 = e0 := he0.symm
        have i1 : IntKind.i64.wrap (u1 + e1) = u1 + e1 := IntWalk.i64_in _ (by omega)
        have i2 : IntKind.i64.wrap (u2 + e2) = u2 + e2 := IntWalk.i64_in _ (by omega)
        have i0 : IntKind.i64.wrap (u0 + e0) = u0 + e0 := IntWalk.i64_in _ (by omega)
        clear he1 he2 he0 hu0 hu1 hu2
        have x0' := X6.c0; have x1' := X6.c1; have x2' := X6.c2
        have g0 := hgz (i * 3); have g1 := hgz (i * 3 + 1); have g2 := hgz (i * 3 + 2)
        simp only [Nat.zero_add, Nat.add_zero] at v0' v1' v2'
        have HTB2 := HTB
        clear hgz hcell HTB iw hx' hx1 hx2
        have hjg : jx ≠ gb := by omega
        have hjg1 : jx + 1 ≠ gb := by omega
        have GW : Aside (∃ V : Nat → Nat → Int, IsRows 3 (((w6.setCell ⟨gb, i * 3 + 1, none⟩ (.int .i64 (u1 + e1))).setCell ⟨gb, i * 3 + 2, none⟩ (.int .i64 (u2 + e2))).setCell ⟨gb, i * 3, none⟩ (.int .i64 (u0 + e0))).drew (some ⟨gb, 0, none⟩) n6 cp V ∧ (∀ i j, i < n6 → j < 3 → IntKind.i64.has (V i j)) ∧ Below W0.heap.size W0 (((w6.setCell ⟨gb, i * 3 + 1, none⟩ (.int .i64 (u1 + e1))).setCell ⟨gb, i * 3 + 2, none⟩ (.int .i64 (u2 + e2))).setCell ⟨gb, i * 3, none⟩ (.int .i64 (u0 + e0))).drew ∧ KC (((w6.setCell ⟨gb, i * 3 + 1, none⟩ (.int .i64 (u1 + e1))).setCell ⟨gb, i * 3 + 2, none⟩ (.int .i64 (u2 + e2))).setCell ⟨gb, i * 3, none⟩ (.int .i64 (u0 + e0))).drew jx jr jg ∧ SC (((w6.setCell ⟨gb, i * 3 + 1, none⟩ (.int .i64 (u1 + e1))).setCell ⟨gb, i * 3 + 2, none⟩ (.int .i64 (u2 + e2))).setCell ⟨gb, i * 3, none⟩ (.int .i64 (u0 + e0))).drew (jx + 1) xc xp xd xn xs xl xm xk) := by
          refine ⟨upd2 (upd2 (upd2 U i 1 (u1 + e1)) i 2 (u2 + e2)) i 0 (u0 + e0), ((hrows.set hin (show 1 < 3 by omega) (u1 + e1)).set hin (show 2 < 3 by omega) (u2 + e2)).set hin (show 0 < 3 by omega) (u0 + e0), fun i' j' _ _ => ?_, ?_, ?_, ?_⟩
          · have hb := HTB2.out i' j'
            show -9223372036854775808 ≤ _ ∧ _ ≤ 9223372036854775807
            unfold upd2
            repeat' split
            all_goals omega
          · exact (((KB6.setCell (p := ⟨gb, i * 3 + 1, none⟩) (by simp; omega) _).setCell (p := ⟨gb, i * 3 + 2, none⟩) (by simp; omega) _).setCell (p := ⟨gb, i * 3, none⟩) (by simp; omega) _).drew
          · exact (((J6.far hjg).far hjg).far hjg).drew
          · exact (((Z6.far hjg1).far hjg1).far hjg1).drew
        clear hjg hjg1 HTB2 hrows
        go_region
        all_goals go_wp2_with fail
        all_goals go_meet
        all_goals exact ⟨rfl, GW.out⟩
      · go_wp2_with fail
        all_goals go_meet
        all_goals exact ⟨rfl, FIN.out⟩
  obtain ⟨rfl, V, hV, hVh, KB, J, Z⟩ := hcut
  obtain ⟨w7, rfl⟩ : ∃ W : World, W = wc := ⟨_, rfl⟩
  clear J6 Z6 KB6 hrows hfz HTB
  have S7 : SC w7 w.heap.size c p d n s l m k := S0.low KB (by omega)
  have Q7 : KC w7 (w.heap.size + 1) r g := Q0.low KB (by omega)
  have hR7 : IsRows 3 w7 a len cap T := HR0.out.kept KB
  have B7 : Below w.heap.size w w7 := hb0.trans (KB.mono (by omega))
  obtain ⟨E1, hE1⟩ : ∃ z, z = posE c p d n s l m k r g bg T len := ⟨_, rfl⟩
  obtain ⟨E2, hE2⟩ : ∃ z, z = posE xc xp xd xn xs xl xm xk jr jg jb V n6 := ⟨_, rfl⟩
  have P1 : Aside (∀ w' : World, Below w7.heap.size w7 w' → Calls Try.prog 26 #[.agg (sv c p d n s l m k), .agg #[.int .i64 r, .int .i64 g], .int .i64 bg, .slice a len cap] w' fun e w'' => e = .returned (.bool E1) ∧ Below w'.heap.size w' w'') := fun w' hC => by rw [hE1]; exact possible_all _ _ _ _ _ _ _ _ _ _ _ a len cap T w' (hR7.kept hC) hTT.out
  have P2 : Aside (∀ w' : World, Below w7.heap.size w7 w' → Calls Try.prog 27 #[.agg (sv c p d n s l m k), .agg #[.int .i64 r, .int .i64 g], .int .i64 bg, .slice a len cap] w' fun e w'' => e = .returned (.bool E1) ∧ Below w'.heap.size w' w'') := fun w' hC => by rw [hE1]; exact rpossible_all _ _ _ _ _ _ _ _ _ _ _ a len cap T w' (hR7.kept hC)
  have P3 : Aside (∀ w' : World, Below w7.heap.size w7 w' → Calls Try.prog 26 #[.agg (sv xc xp xd xn xs xl xm xk), .agg #[.int .i64 jr, .int .i64 jg], .int .i64 jb, .slice ao n6 cp] w' fun e w'' => e = .returned (.bool E2) ∧ Below w'.heap.size w' w'') := fun w' hC => by rw [hE2]; exact possible_all _ _ _ _ _ _ _ _ _ _ _ ao n6 cp V w' (hV.kept hC) hVh
  have P4 : Aside (∀ w' : World, Below w7.heap.size w7 w' → Calls Try.prog 27 #[.agg (sv xc xp xd xn xs xl xm xk), .agg #[.int .i64 jr, .int .i64 jg], .int .i64 jb, .slice ao n6 cp] w' fun e w'' => e = .returned (.bool E2) ∧ Below w'.heap.size w' w'') := fun w' hC => by rw [hE2]; exact rpossible_all _ _ _ _ _ _ _ _ _ _ _ ao n6 cp V w' (hV.kept hC)
  clear hE1 hE2 hR7 hV hVh KB S0 Q0 X0 hb0
  go_upto_region 9 with fail
  refine wp_region_quietC (fun w' => Below w7.heap.size w7 w') (by kernel_rfl) (by kernel_rfl) (Below.refl _ _).drew ?_
  repeat (first
    | go_big_quiet_skip
    | (go_big_quiet_want; go_big_quiet_op; go_big_quiet_on)
    | (go_big_quiet_want; apply Exists.intro; refine ⟨fun w' hC => ?_, ?_⟩; (have S9 := S7.below hC; have Q9 := Q7.below hC; have J9 := J.below hC; have Z9 := Z.below hC; obtain ⟨s0', s1', s2', s3', s4', s5', s6', s7', -⟩ := S9; obtain ⟨q0', q1'⟩ := Q9; obtain ⟨j0', j1'⟩ := J9; obtain ⟨z0', z1', z2', z3', z4', z5', z6', z7', -⟩ := Z9; go_simp; first | rfl | exact ⟨rfl, hC⟩ | (go_at_call_of 26 (Value.int IntKind.i64 bg); exact (P1.out _ hC).mono fun e w'' ⟨he, hb'⟩ => ⟨he, bel_trans hC hb'⟩) | (go_at_call_of 27 (Value.int IntKind.i64 bg); exact (P2.out _ hC).mono fun e w'' ⟨he, hb'⟩ => ⟨he, bel_trans hC hb'⟩) | (go_at_call_of 26 (Value.int IntKind.i64 jb); exact (P3.out _ hC).mono fun e w'' ⟨he, hb'⟩ => ⟨he, bel_trans hC hb'⟩) | (go_at_call_of 27 (Value.int IntKind.i64 jb); exact (P4.out _ hC).mono fun e w'' ⟨he, hb'⟩ => ⟨he, bel_trans hC hb'⟩) | (go_at_call 13; exact (awake_any _).mono fun e w'' ⟨he, hb'⟩ => ⟨he, bel_trans hC hb'⟩)); (try simp only [Act.put, List.setIfInBounds_toArray, List.set_cons_zero, List.set_cons_succ]); go_big_quiet_on))
  refine wpQuiet_nil ?_
  intro w8 hC8
  go_wp2_with fail
  go_ret
  exact ⟨rfl, bel_trans B7 hC8⟩

theorem walkPossible (w : World) (c p d n s l m k : Int) (_hs : ∀ z ∈ [c, p, d, n, s, l, m, k], IntKind.i64.has z) (r g : Int) (_hk : ∀ z ∈ [r, g], IntKind.i64.has z) (bg : Int) (_hbg : IntKind.i64.has bg)
    (a : Option Addr) (len cap : Nat) (T : Nat → Nat → Int) (h : IsRows 3 w a len cap T) (hT : ∀ i j, i < len → j < 3 → IntKind.i64.has (T i j)) (a2 : Option Addr) (len2 cap2 : Nat) (zs : List Int) (hrow : IsRow w a2 len2 cap2 zs) (at0 : Int) (hat : IntKind.i64.has at0) (b0 b1 b2 : Int) (_hb : ∀ z ∈ [b0, b1, b2], IntKind.i64.has z) :
    Calls Try.prog 4 #[.agg ([c, p, d, n, s, l, m, k].map (Value.int .i64)).toArray, .agg ([r, g].map (Value.int .i64)).toArray, .int .i64 bg, .slice a len cap, .slice a2 len2 cap2, .int .i64 at0, .agg ([b0, b1, b2].map (Value.int .i64)).toArray] w fun e w' => e = .returned (.bool true) ∧ Below w.heap.size w w' := by
  by_cases hl : len ≤ 210
  · exact poss_short w c p d n s l m k r g bg a len cap T h hT hl a2 len2 cap2 zs hrow at0 hat b0 b1 b2
  · exact poss_long w _ _ _ bg at0 a len cap a2 len2 cap2 h.1 (by omega)

set_option maxRecDepth 100000 in
theorem liftedKickPossible (os : Os) (started : os.Started) (H : Type) (enc : TypeId × Value → H) :
    ReturnsInHanded {} Try.checked os 4 .any (Rows.kickPossibleSpec.pre6 enc Try.prog Try.f4 Rows.kickPossibleRow.domain false) (Rows.kickPossibleSpec.post enc Try.prog Try.f4 false true false false) := by
  refine returnsInHanded_of_change (C := Try.checked) own started (by kernel_rfl) Try.func4
    (ChangeSpec.witness6 (enc := enc) (C := Try.checked) false ⟨#[], #[.agg #[.int .i64 0, .int .i64 0, .int .i64 0, .int .i64 0, .int .i64 0, .int .i64 0, .int .i64 0, .int .i64 0], .agg #[.int .i64 0, .int .i64 0], .int .i64 0, .slice none 0 0, .slice none 0 0, .int .i64 0, .agg #[.int .i64 0, .int .i64 0, .int .i64 0]], []⟩ 16 (by kernel_rfl) (by kernel_rfl) (by kernel_rfl) (by kernel_rfl)) ?_
  intro W base args ds gs before hval0 hW hcnd _
  have hval : ∀ (j : Nat) t v, Try.f4.params[j]? = some t → args[j]? = some v → Value.okWide Try.prog W .any base t v := hval0
  have hW' := hW
  obtain ⟨p, q, hA0, hV, rfl, hfz, hnd⟩ := hW
  have hA : DataW.TrodAll enc Try.prog W 0 (fun _ => true) true Try.f4.params.toList args.toList ds p := hA0
  rw [Try.params4] at hA hval
  obtain ⟨v0, vs0, d0, ds0, p0, q0, hargs, rfl, rfl, h0, r0⟩ := trodAll_cons hA
  obtain ⟨v1, vs1, d1, ds1, p1, q1, rfl, rfl, rfl, h1, r1⟩ := trodAll_cons r0
  obtain ⟨v2, vs2, d2, ds2, p2, q2, rfl, rfl, rfl, h2, r2⟩ := trodAll_cons r1
  obtain ⟨v3, vs3, d3, ds3, p3, q3, rfl, rfl, rfl, h3, r3⟩ := trodAll_cons r2
  obtain ⟨v4, vs4, d4, ds4, p4, q4, rfl, rfl, rfl, h4, r4⟩ := trodAll_cons r3
  obtain ⟨v5, vs5, d5, ds5, p5, q5, rfl, rfl, rfl, h5, r5⟩ := trodAll_cons r4
  obtain ⟨v6, vs6, d6, ds6, p6, q6, rfl, rfl, rfl, h6, r6⟩ := trodAll_cons r5
  obtain ⟨rfl, rfl, rfl⟩ := trodAll_nil r6
  obtain rfl : args = #[v0, v1, v2, v3, v4, v5, v6] := by cases args; simp_all
  obtain ⟨rfl, rfl⟩ := trodVars_none hV
  have k0 := h0
  have lt0 : ∀ x ∈ p0, x.block < W.heap.size := by obtain ⟨m, hm⟩ := k0; exact DataW.trod_lt m _ _ _ hm
  obtain ⟨z0, rfl, l0, b0⟩ := agg_ints (ts := [3, 2, 2, 2, 2, 2, 2, 2]) Try.underlying32 (by kernel_rfl) (by kernel_rfl) (by kernel_rfl) (hval 0 _ v0 rfl rfl)
  obtain ⟨a0x0, a0x1, a0x2, a0x3, a0x4, a0x5, a0x6, a0x7, rfl⟩ := list8 l0
  have k1 := h1
  have lt1 : ∀ x ∈ p1, x.block < W.heap.size := by obtain ⟨m, hm⟩ := k1; exact DataW.trod_lt m _ _ _ hm
  obtain ⟨z1, rfl, l1, b1⟩ := agg_ints (ts := [2, 2]) Try.underlying29 (by kernel_rfl) (by kernel_rfl) (by kernel_rfl) (hval 1 _ v1 rfl rfl)
  obtain ⟨a1x0, a1x1, rfl⟩ := list2 l1
  have k2 := h2
  have lt2 : ∀ x ∈ p2, x.block < W.heap.size := by obtain ⟨m, hm⟩ := k2; exact DataW.trod_lt m _ _ _ hm
  obtain ⟨a2, rfl, b2⟩ := val_int (by kernel_rfl) (hval 2 _ v2 rfl rfl)
  have k3 := h3
  have lt3 : ∀ x ∈ p3, x.block < W.heap.size := by obtain ⟨m, hm⟩ := k3; exact DataW.trod_lt m _ _ _ hm
  obtain ⟨a3, len3, cap3, z3, rfl, w3, b3⟩ := val_rows Try.underlying23 Try.underlying49 (by kernel_rfl) (by kernel_rfl) (by kernel_rfl) (by decide) (hval 3 _ v3 rfl rfl) h3
  have k4 := h4
  have lt4 : ∀ x ∈ p4, x.block < W.heap.size := by obtain ⟨m, hm⟩ := k4; exact DataW.trod_lt m _ _ _ hm
  obtain ⟨a4, len4, cap4, z4, rfl, w4⟩ := val_ints Try.underlying24 Try.underlying3 (by kernel_rfl) (hval 4 _ v4 rfl rfl) h4
  have k5 := h5
  have lt5 : ∀ x ∈ p5, x.block < W.heap.size := by obtain ⟨m, hm⟩ := k5; exact DataW.trod_lt m _ _ _ hm
  obtain ⟨a5, rfl, b5⟩ := val_int (by kernel_rfl) (hval 5 _ v5 rfl rfl)
  have k6 := h6
  have lt6 : ∀ x ∈ p6, x.block < W.heap.size := by obtain ⟨m, hm⟩ := k6; exact DataW.trod_lt m _ _ _ hm
  obtain ⟨z6, rfl, l6, b6⟩ := agg_ints (ts := [3, 2, 2]) Try.underlying49 (by kernel_rfl) (by kernel_rfl) (by kernel_rfl) (hval 6 _ v6 rfl rfl)
  obtain ⟨a6x0, a6x1, a6x2, rfl⟩ := list3 l6
  clear hA0 hval0
  refine (walkPossible W a0x0 a0x1 a0x2 a0x3 a0x4 a0x5 a0x6 a0x7 b0 a1x0 a1x1 b1 a2 b2 a3 len3 cap3 z3 w3 b3 a4 len4 cap4 z4 w4 a5 b5 a6x0 a6x1 a6x2 b6).mono fun e W' ⟨he, bel⟩ => ?_
  subst he
  exact ⟨_, rfl, _, _, _, [], _, [], hW', trodAll_mk1 (shut_bool Try.underlying4 _), (trodAll_cons_mk (Below.trod laidOut (by kernel_rfl) (of_decide_eq_true (by kernel_rfl)) k0 bel lt0) (trodAll_cons_mk (Below.trod laidOut (by kernel_rfl) (of_decide_eq_true (by kernel_rfl)) k1 bel lt1) (trodAll_cons_mk (Below.trod laidOut (by kernel_rfl) (of_decide_eq_true (by kernel_rfl)) k2 bel lt2) (trodAll_cons_mk (Below.trod laidOut (by kernel_rfl) (of_decide_eq_true (by kernel_rfl)) k3 bel lt3) (trodAll_cons_mk (Below.trod laidOut (by kernel_rfl) (of_decide_eq_true (by kernel_rfl)) k4 bel lt4) (trodAll_cons_mk (Below.trod laidOut (by kernel_rfl) (of_decide_eq_true (by kernel_rfl)) k5 bel lt5) (trodAll_cons_mk (Below.trod laidOut (by kernel_rfl) (of_decide_eq_true (by kernel_rfl)) k6 bel lt6) trodAll_mk0))))))), rfl, bel.frame _, fun h => by cases h⟩

/-- KickPossible returns true for every input. -/
theorem kickPossible_holds : Rows.KickPossibleSaid :=
  OpenClaim.holds_of_wide 4 Try.f4 rfl rfl rfl rfl rfl rfl rfl ⟨rfl, rfl, rfl, rfl, rfl⟩ rfl rfl rfl rfl rfl (by kernel_rfl) Try.func4 (by kernel_rfl)
    (of_decide_eq_true (by kernel_rfl)) (by unfold Func.isWrapper; first | (rw [if_pos (by decide +kernel)]; kernel_rfl) | (rw [if_neg (by decide +kernel)]; exact ⟨rfl, rfl⟩))
    (fun os started H enc _ => liftedKickPossible os started H enc)

end Go.Proofs.Ytngcfohmlppghaa
