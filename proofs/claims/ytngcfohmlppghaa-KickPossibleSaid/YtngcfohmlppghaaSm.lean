/- The contract of moonpoolkit's Samples. -/
import Derived.Test.YtngcfohmlppghaaSm0
import Derived.Test.YtngcfohmlppghaaKf
import Derived.Deep.RegionHeld3
import Derived.Deep.DeepCutAuto
import Derived.Deep.LoopGhost
namespace Go.Proofs.Ytngcfohmlppghaa
open Go.RowKit

set_option maxRecDepth 100000 in
set_option maxHeartbeats 4000000 in
theorem samples_any (rb : Nat) (a : Option Addr) (len cap : Nat) (zs : List Int) (k0 : Nat) (hk0 : k0 ≤ 800000) (sn c p d n s l m k r g bg last : Int) (hb : SensBd c p d n s l m k) (hr : 0 ≤ r ∧ r ≤ 16777216) (hg : 0 ≤ g ∧ g ≤ 4096) (bg0 : 0 ≤ bg) (bg1 : bg ≤ 1000) (la0 : 0 ≤ last) (la1 : last ≤ 20000)
    (w : World) (h : RingIs w rb a len cap zs k0) :
    Calls Try.prog 18 #[.pointer (some ⟨rb, 0, none⟩), .int .i64 sn, .agg (sv c p d n s l m k), .agg #[.int .i64 r, .int .i64 g], .int .i64 bg, .int .i64 last] w (SampOut w rb a len cap zs k0 sn c p n s l r g bg last) := by
  obtain ⟨hc, p0, p1, d0, d1, n0, n1, s0, s1, l0, l1, m0, m1, kk0, kk1⟩ := hb
  obtain ⟨i0, hi, hz0, hz1, hz2⟩ := info_parts info_sample
  have HI : Aside (Try.prog.info? 49 = some i0 ∧ i0.zero = some (.agg #[.int .i64 0, .int .i64 0, .int .i64 0]) ∧ i0.size = 3 ∧ i0.bytes = 24) := ⟨hi, hz0, hz1, hz2⟩
  clear hi hz0 hz1 hz2
  have hlt := h.lt
  have hne : Aside (∀ x, a = some x → 0 < cap → x.block < w.heap.size) := fun x hx hc => (h.ne x hx hc).2
  go_enter Try.func18, Try.ntmps18
  go_wp2_with fail
  obtain ⟨W0, hW0⟩ : ∃ W, W = (w.alloc (.cells (sv c p d n s l m k) 32)).alloc (.cells #[.int .i64 r, .int .i64 g] 29) := ⟨_, rfl⟩
  have S0 : SC W0 w.heap.size c p d n s l m k := by rw [hW0]; exact ⟨by simp [go_sem, World.cell?_alloc_past], by simp [go_sem, World.cell?_alloc_past], by simp [go_sem, World.cell?_alloc_past], by simp [go_sem, World.cell?_alloc_past], by simp [go_sem, World.cell?_alloc_past], by simp [go_sem, World.cell?_alloc_past], by simp [go_sem, World.cell?_alloc_past], by simp [go_sem, World.cell?_alloc_past], fun j => by simp [go_sem]⟩
  have K0 : KC W0 (w.heap.size + 1) r g := by rw [hW0]; exact ⟨by simp [go_sem], by simp [go_sem]⟩
  have R0 : RingIs W0 rb a len cap zs k0 := by rw [hW0]; exact h.kept (by go_grown)
  have kw : RKept rb w W0 := by rw [hW0]; exact ((RKept.refl rb w).alloc _).alloc _
  have hs0 : W0.heap.size = w.heap.size + 2 := by rw [hW0]; simp
  rw [← hW0]
  clear hW0 h
  refine (next_any rb a len cap zs k0 p (by omega) (by omega) (by omega) _ R0).mono ?_
  rintro e w1 ⟨ph, ph0, ph1, rfl, k1, r1⟩
  have S1 := S0.kept k1 (by omega)
  have c5 := S1.c5
  go_wp2_with fail
  obtain ⟨F, hF⟩ : ∃ F : Nat, (F : Int) = last + 3 := ⟨(last + 3).toNat, by omega⟩
  go_loopg [13, 14, 15] F (fun f vo vl vt wr => ∃ (L : List (Int × Int)) (la A lf : Int) (j : Nat), vl = .int .i64 lf ∧ vt = .int .i64 (ph + A * p) ∧ Ch p ph last (l + 1) n L la ∧ la < A ∧ A - 1 - la = l - lf ∧ 0 ≤ lf ∧ lf ≤ l ∧ 0 ≤ A ∧ A + f = last + 3 ∧ wr.ownsRow W0.heap.size 49 3 vo L.length (smC sn c r g s ph p bg L) ∧ RKept rb W0 wr ∧ RingIs wr rb a len cap zs j ∧ j ≤ k0 + 1 + 3 * A.toNat ∧ L.length ≤ 190)
  case atStart => exact ⟨[], -1, 0, l, _, rfl, by simp, Ch.nil, by omega, by omega, by omega, by omega, by omega, by omega, World.ownsRow_nil _ _ _ _, k1, r1, by omega, by simp⟩
  case round =>
    obtain ⟨L, la, A, lf, j, rfl, rfl, HC, hla, hlf, lf0, lf1, A0, hAf, hown, K1, R1, hj, hL⟩ := hrel
    obtain ⟨ao, cp, rfl⟩ := own_slice hown
    have S2 := S0.kept K1 (by omega)
    have Q2 := K0.kept K1 (by omega)
    have hAp := Int.mul_le_mul_of_nonneg_left p0 A0
    obtain ⟨ap0, ap1⟩ := mul_bd A0 (show A ≤ 20003 by omega) (show (0 : Int) ≤ p by omega) p1
    obtain ⟨t, ht⟩ : ∃ z, z = ph + A * p := ⟨_, rfl⟩
    have HT : Aside (t = ph + A * p) := ht
    have tb0 : 0 ≤ t := by omega
    have tb1 : t ≤ 250000 := by omega
    have tA : A ≤ t := by omega
    have fin : (last < t ∨ L.length = 190) → SampOut w rb a len cap zs k0 sn c p n s l r g bg last (.returned (.slice ao L.length cp)) wr := fun hx =>
      ⟨L, la, A, ph, j, _, ph0, ph1, HC, hla, by omega, A0, by rw [← ht]; exact hx, hL, by omega, rfl, by
        refine ⟨hown.1, ?_⟩
        rcases hown.2 with hx | ⟨g, cap, cur, h1, h2, h3⟩
        · exact .inl hx
        · exact .inr ⟨g, cap, cur, h1, by omega, h3⟩, kw.trans K1, R1⟩
    have hlL : (L.length : Int) ≤ 190 := by omega
    rw [← ht]
    clear ht hAp ap0 ap1
    by_cases hend : last < t
    · have hf := fin (.inl hend)
      clear fin
      have HF : Aside (SampOut w rb a len cap zs k0 sn c p n s l r g bg last (.returned (.slice ao L.length cp)) wr) := hf
      clear hf
      go_wp2_with fail
      go_ret
      exact HF.out
    by_cases hfull : L.length = 190
    · have hf := fin (.inr hfull)
      clear fin
      have HF : Aside (SampOut w rb a len cap zs k0 sn c p n s l r g bg last (.returned (.slice ao L.length cp)) wr) := hf
      have hfl : ¬ (L.length : Int) < 190 := by omega
      clear hf hfull
      go_wp2_with fail
      go_ret
      exact HF.out
    clear fin
    have hfl : (L.length : Int) < 190 := by omega
    have hend' : t ≤ last := by omega
    obtain ⟨f, rfl⟩ : ∃ f, gk = f + 1 := ⟨gk - 1, by omega⟩
    go_upto_region 6 with fail
    go_cut [43] (fun s43 wx => ∃ (b : Bool) (j' : Nat), s43 = .bool b ∧ (b = true → 0 < lf) ∧ RKept rb wr wx ∧ RingIs wx rb a len cap zs j' ∧ j' ≤ j + 1)
    · by_cases hx : 0 < lf
      · go_wp2_with fail
        refine (next_any rb a len cap zs j 2 (by omega) (by omega) (by omega) _ R1).mono ?_
        rintro e w2 ⟨v2, v2a, v2b, rfl, k2, r2⟩
        go_wp2_with fail
        go_meet
        exact ⟨_, _, rfl, fun _ => hx, k2, r2, by omega⟩
      · go_wp2_with fail
        go_meet
        exact ⟨_, j, rfl, by simp, RKept.refl _ _, R1, by omega⟩
    obtain ⟨b, j2, rfl, hb0, k2, r2, hj2⟩ := hcut
    obtain ⟨w2, rfl⟩ : ∃ W : World, W = wc := ⟨_, rfl⟩
    have K2 := K1.trans k2
    have own2 := own_ring hown k2 (by omega)
    have S3 := S2.kept k2 (by omega)
    have Q3 := Q2.kept k2 (by omega)
    have c1 := S3.c1
    clear S2 Q2 K1 hown R1 k2
    cases b
    · clear hb0
      have c5 := S3.c5
      go_upto_region 9 with fail
      have nb0 : IntKind.i64.wrap (t - bg) = t - bg := IntWalk.i64_in _ (by omega)
      repeat ((fail_if_success guard_target =~ Code.wp _ (Code.seq (Code.seq _ _) _) _ _ _); go_step)
      apply wp_seq_k; intro _ _
      obtain ⟨N, hN⟩ : ∃ z, z = t - bg := ⟨_, rfl⟩
      have hN1 : N ≤ 20000 := by omega
      have hN2 : -1000 ≤ N := by omega
      have HN : Aside (N = t - bg) := hN
      rw [← hN]
      clear hN nb0
      obtain ⟨sy0, sy1⟩ := say_bd (c := c) hr hg hN1
      have e0 := S3.c0
      have y0 := Q3.c0
      have y1 := Q3.c1
      go_cut [16, 17] (fun s16 s17 wx => s16 = .int .i64 N ∧ s17 = .int .i64 (sayV c r g N) ∧ wx = w2)
      · clear sy0 sy1 HN tb0 tb1 tA HT
        by_cases hz : N < 0
        · have hx : sayV c r g N = 0 := by simp [sayV, flowV, gainV, hz]
          have HX : Aside (sayV c r g N = 0) := hx
          have hz0 : ¬ N = 0 := by omega
          have hz1 : ¬ 0 < N := by omega
          clear hx
          go_wp2_with fail
          go_meet
          exact ⟨rfl, by rw [HX.out], rfl⟩
        · have hnn : 0 ≤ N := by omega
          obtain ⟨r0, r1'⟩ := hr
          obtain ⟨g0, g1⟩ := hg
          obtain ⟨b10, b11⟩ := mul_bd (a := N) (A := 20000) (b := r) (B := 16777216) hnn hN1 r0 r1'
          obtain ⟨b40, b41⟩ := mul_bd (a := N) (A := 20000) (b := g) (B := 4096) hnn hN1 g0 g1
          have b2 : 0 ≤ N * (N - 1) ∧ N * (N - 1) ≤ 20000 * 20000 := by
            by_cases h0 : N = 0
            · subst h0; simp
            · exact mul_bd (by omega) hN1 (by omega) (by omega)
          obtain ⟨b20, b21⟩ := b2
          obtain ⟨b30, b31⟩ := mul_bd (a := g) (A := 4096) (b := N * (N - 1) / 2) (B := 200000000) g0 g1 (by omega) (by omega)
          clear HI hne hAf hla hlf hlL hend hfl hend' HC hj hj2 lf0 lf1
          rcases hc with rfl | rfl
          · have HX : Aside (sayV 1 r g N = N * r + g * (N * (N - 1) / 2)) := by
              show _ = _
              simp only [sayV, gainV]
              rw [if_neg (by decide), if_neg (by omega)]
            go_wp2_with fail
            all_goals go_meet
            all_goals exact ⟨by first | rfl | simp [*], by rw [HX.out] <;> simp [*], rfl⟩
          · have HX : Aside (sayV 2 r g N = r + N * g) := by
              show _ = _
              simp only [sayV, flowV]
              rw [if_pos trivial, if_neg (by omega)]
            go_wp2_with fail
            all_goals go_meet
            all_goals exact ⟨by first | rfl | simp [*], by rw [HX.out] <;> simp [*], rfl⟩
      obtain ⟨rfl, rfl, hw2⟩ := hcut
      rw [hw2]
      clear hw2 y0 y1 e0
      obtain ⟨V, hV⟩ : ∃ z, z = sayV c r g N := ⟨_, rfl⟩
      have HV : Aside (V = sayV c r g (ph + A * p - bg)) := by show _ = _; rw [hV, HN.out, HT.out]
      rw [← hV] at sy0 sy1 ⊢
      clear hV HN
      have S4 : SC w2.drew w.heap.size c p d n s l m k := S3.drew
      have R4 : RingIs w2.drew rb a len cap zs j2 := ⟨r2.c0, r2.c1, r2.fz, r2.row, r2.ne, r2.lt⟩
      have i1 : IntKind.i64.wrap (2 * n) = 2 * n := IntWalk.i64_in _ (by omega)
      have i2 : IntKind.i64.wrap (2 * n + 1) = 2 * n + 1 := IntWalk.i64_in _ (by omega)
      go_upto_region 14 with fail
      go_region_held3 (fun w' => w'.cell? ⟨w.heap.size, 3, none⟩ = some (.int .i64 n)) (exact SC.c3 (by assumption))
        (first
          | (go_at_call 17; refine (next_any rb a len cap zs j2 (2 * n + 1) (by omega) (by omega) (by omega) _ R4).mono ?_; rintro e w3 ⟨v3, v3a, v3b, rfl, k3, r3⟩; have S5 := S4.kept k3 (by omega); have i3 : IntKind.i64.wrap (v3 - n) = v3 - n := IntWalk.i64_in _ (by omega)))
      have K3 : RKept rb W0 w3 := K2.trans (((RKept.refl rb w2).drew).trans k3)
      have own3 := own_ring own2 (((RKept.refl rb w2).drew).trans k3) (by omega)
      clear S4 R4 r2 S3 Q3 K2 own2 k3 i1 i2 i3 c1 c5
      go_wp2_with fail
      refine (next_any rb a len cap zs (j2 + 1) 3 (by omega) (by omega) (by omega) _ r3).mono ?_
      rintro e w4 ⟨v4, v4a, v4b, rfl, k4, r4⟩
      have K4 := K3.trans k4
      have own4 := own_ring own3 k4 (by omega)
      have S6 := S5.kept k4 (by omega)
      have c3 := S6.c3
      clear S5 r3 K3 own3 k4
      go_upto_region 17 with fail
      · obtain ⟨x, hx⟩ : ∃ x, x = -n := ⟨_, rfl⟩
        have x0 : -3 ≤ x := by omega
        have x1 : x ≤ 3 := by omega
        have xn0 : -n ≤ x := by omega
        have xn1 : x ≤ n := by omega
        rw [← hx]
        clear hx v3a v3b v4a v4b
        obtain ⟨xs0, xs1⟩ := mul_abs (A := 3) (B := 500) x0 x1 (show (0 : Int) ≤ s by omega) s1
        have i4 : IntKind.i64.wrap (x * s) = x * s := IntWalk.i64_in _ (by omega)
        have i5 : IntKind.i64.wrap (V + x * s) = V + x * s := IntWalk.i64_in _ (by omega)
        have c4 := S6.c4
        have c1 := S6.c1
        clear hc d0 d1 m0 m1 kk0 kk1 hr hg bg0 bg1 hk0 hN1 hN2 x0 x1 xs0 xs1
        go_wp2_with (at_builtin; refine wpList_append_own _ rfl (.tmp 100) (.tmp 110) 23 rfl W0.heap.size 49 i0 (.agg #[.int .i64 0, .int .i64 0, .int .i64 0]) 3 24 Try.underlying23 HI.out.1 HI.out.2.1 HI.out.2.2.1 HI.out.2.2.2 rfl (by decide) _ _ _ rfl (own4.alloc _) ⟨w4.heap.size, 0, none⟩ 1 1 [.int .i64 sn, .int .i64 t, .int .i64 (V + x * s)] rfl rfl (cells3 _ _ _ _ _) one3 (by unfold maxLen; omega) (by omega) (by have := K4.size; simp; omega) ?_; intro v' w5 hown' hgrow _; have K5 : RKept rb W0 w5 := (K4.alloc _).grown hgrow (fun q e => (own4.lt q e).1); have R5 : RingIs w5 rb a len cap zs (j2 + 1 + 1) := (r4.kept (by go_grown)).grown hgrow (fun e => by have := (own4.lt rb e).1; omega) (fun y hy hcc e => by have := (own4.lt _ e).1; have := hne.out y hy hcc; omega); have c1 := (S0.kept K5 (by omega)).c1)
        go_roundg f
        case measure => omega
        case rel =>
          refine ⟨L ++ [(A, x)], A, A + 1, l, j2 + 1 + 1, rfl, ?_, HC.snoc hla (by omega) xn0 xn1 (by rw [← HT.out]; exact hend'), by omega, by omega, by omega, by omega, by omega, by omega, ?_, K5, R5, by omega, by simp; omega⟩
          · rw [HT.out, Int.add_mul, Int.one_mul, Int.add_assoc]
          · rw [smC_snoc, ← HV.out, ← HT.out, List.length_append]
            exact hown'
      · obtain ⟨x, hx⟩ : ∃ x, x = v3 - n := ⟨_, rfl⟩
        have x0 : -3 ≤ x := by omega
        have x1 : x ≤ 3 := by omega
        have xn0 : -n ≤ x := by omega
        have xn1 : x ≤ n := by omega
        rw [← hx]
        clear hx v3a v3b v4a v4b
        obtain ⟨xs0, xs1⟩ := mul_abs (A := 3) (B := 500) x0 x1 (show (0 : Int) ≤ s by omega) s1
        have i4 : IntKind.i64.wrap (x * s) = x * s := IntWalk.i64_in _ (by omega)
        have i5 : IntKind.i64.wrap (V + x * s) = V + x * s := IntWalk.i64_in _ (by omega)
        have c4 := S6.c4
        have c1 := S6.c1
        clear hc d0 d1 m0 m1 kk0 kk1 hr hg bg0 bg1 hk0 hN1 hN2 x0 x1 xs0 xs1
        go_wp2_with (at_builtin; refine wpList_append_own _ rfl (.tmp 100) (.tmp 110) 23 rfl W0.heap.size 49 i0 (.agg #[.int .i64 0, .int .i64 0, .int .i64 0]) 3 24 Try.underlying23 HI.out.1 HI.out.2.1 HI.out.2.2.1 HI.out.2.2.2 rfl (by decide) _ _ _ rfl (own4.alloc _) ⟨w4.heap.size, 0, none⟩ 1 1 [.int .i64 sn, .int .i64 t, .int .i64 (V + x * s)] rfl rfl (cells3 _ _ _ _ _) one3 (by unfold maxLen; omega) (by omega) (by have := K4.size; simp; omega) ?_; intro v' w5 hown' hgrow _; have K5 : RKept rb W0 w5 := (K4.alloc _).grown hgrow (fun q e => (own4.lt q e).1); have R5 : RingIs w5 rb a len cap zs (j2 + 1 + 1) := (r4.kept (by go_grown)).grown hgrow (fun e => by have := (own4.lt rb e).1; omega) (fun y hy hcc e => by have := (own4.lt _ e).1; have := hne.out y hy hcc; omega); have c1 := (S0.kept K5 (by omega)).c1)
        go_roundg f
        case measure => omega
        case rel =>
          refine ⟨L ++ [(A, x)], A, A + 1, l, j2 + 1 + 1, rfl, ?_, HC.snoc hla (by omega) xn0 xn1 (by rw [← HT.out]; exact hend'), by omega, by omega, by omega, by omega, by omega, by omega, ?_, K5, R5, by omega, by simp; omega⟩
          · rw [HT.out, Int.add_mul, Int.one_mul, Int.add_assoc]
          · rw [smC_snoc, ← HV.out, ← HT.out, List.length_append]
            exact hown'
    · have hb1 := hb0 rfl
      clear hb0
      go_wp2_with fail
      go_roundg f
      case measure => omega
      case rel =>
        refine ⟨L, la, A + 1, lf - 1, j2, rfl, ?_, HC, by omega, by omega, by omega, by omega, by omega, by omega, own2, K2, r2, by omega, hL⟩
        rw [HT.out, Int.add_mul, Int.one_mul, Int.add_assoc]
end Go.Proofs.Ytngcfohmlppghaa
