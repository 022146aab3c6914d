/- KickSums returns true for every list of numbers and every number of ticks: the gain of a kick is the sum of its flows. -/
import Derived.Test.YtdjmidoegidlbaaRk
import Derived.Test.YtdjmidoegidlbaaMod64
import Derived.Test.YtdjmidoegidlbaaKg
import Derived.Test.YtdjmidoegidlbaaKr
namespace Go.Proofs.Ytdjmidoegidlbaa
open Go.ChangeShapes Go.WideShapes Go.ChangeAt Go.RowKit

theorem gain_succ (r g : Int) (n : Nat) : gainV r g ((n : Int) + 1) = gainV r g n + flowV r g n := by
  unfold gainV flowV
  rw [if_neg (by omega), if_neg (by omega), if_neg (by omega)]
  have e : ((n : Int) + 1) * ((n : Int) + 1 - 1) / 2 = (n : Int) * ((n : Int) - 1) / 2 + n := by
    have h : ((n : Int) + 1) * ((n : Int) + 1 - 1) = (n : Int) * ((n : Int) - 1) + 2 * n := by
      rw [Int.mul_sub, Int.mul_sub, Int.add_mul, Int.mul_add]
      omega
    rw [h]
    omega
  rw [e, Int.mul_add, Int.add_mul]
  have := Int.mul_comm g (n : Int)
  omega
theorem gain_zero (r g : Int) : gainV r g 0 = 0 := by simp [gainV]
theorem flow_mono (r g : Int) (hg : 0 ≤ g) (n : Nat) : flowV r g 0 ≤ flowV r g n := by
  unfold flowV
  rw [if_neg (by omega), if_neg (by omega)]
  have := Int.mul_nonneg (show (0 : Int) ≤ (n : Int) by omega) hg
  omega

/-- A kick lies in a block, and all that lay below it is as it was. -/
structure KSt (W : World) (kb : Nat) (w : World) : Prop where
  bel : Below kb W w
  lt : kb < w.heap.size
theorem KSt.drew {W w : World} {kb : Nat} (h : KSt W kb w) : KSt W kb w.drew := ⟨h.bel.drew, h.lt⟩
def KS (W : World) (kb : Nat) (r g : Int) (w : World) : Prop := KSt W kb w ∧ w.cell? ⟨kb, 0, none⟩ = some (.int .i64 r) ∧ w.cell? ⟨kb, 1, none⟩ = some (.int .i64 g)
theorem KS.next {W w w' : World} {kb : Nat} {r g : Int} (h : KS W kb r g w) (hb : Below w.heap.size w w') : KS W kb r g w' :=
  ⟨⟨h.1.bel.trans (hb.mono (Nat.le_of_lt h.1.lt)), Nat.lt_of_lt_of_le h.1.lt hb.size⟩, (hb.cell (p := ⟨_, _, _⟩) h.1.lt).trans h.2.1, (hb.cell (p := ⟨_, _, _⟩) h.1.lt).trans h.2.2⟩

theorem gain_ks (W : World) (kb : Nat) (r g n : Int) (hk : kickB r g = true) (hn : n ≤ 20000) (w : World) (h : KSt W kb w ∧ w.cell? ⟨kb, 0, none⟩ = some (.int .i64 r) ∧ w.cell? ⟨kb, 1, none⟩ = some (.int .i64 g)) :
    Calls Try.prog 22 #[.agg #[.int .i64 r, .int .i64 g], .int .i64 n] w fun e w' => e = .returned (.int .i64 (gainV r g n)) ∧ KSt W kb w' ∧ w'.cell? ⟨kb, 0, none⟩ = some (.int .i64 r) ∧ w'.cell? ⟨kb, 1, none⟩ = some (.int .i64 g) :=
  (gain_any r g n hk hn w).mono fun _ _ ⟨he, hb⟩ => ⟨he, KS.next h hb⟩
theorem flow_ks (W : World) (kb : Nat) (r g n : Int) (hk : kickB r g = true) (hn : n ≤ 20000) (w : World) (h : KSt W kb w ∧ w.cell? ⟨kb, 0, none⟩ = some (.int .i64 r) ∧ w.cell? ⟨kb, 1, none⟩ = some (.int .i64 g)) :
    Calls Try.prog 20 #[.agg #[.int .i64 r, .int .i64 g], .int .i64 n] w fun e w' => e = .returned (.int .i64 (flowV r g n)) ∧ KSt W kb w' ∧ w'.cell? ⟨kb, 0, none⟩ = some (.int .i64 r) ∧ w'.cell? ⟨kb, 1, none⟩ = some (.int .i64 g) :=
  (flow_any r g n hk hn w).mono fun _ _ ⟨he, hb⟩ => ⟨he, KS.next h hb⟩

set_option maxHeartbeats 1000000 in
theorem walkSums (w : World) (a : Option Addr) (len cap : Nat) (zs : List Int) (hrow : IsRow w a len cap zs) (t : Int) (ht : IntKind.i64.has t) :
    Calls Try.prog 9 #[.slice a len cap, .int .i64 t] w fun e w' => e = .returned (.bool true) ∧ Below w.heap.size w w' := by
  obtain ⟨t0, t1⟩ := has_bd ht
  obtain ⟨M, hM⟩ : ∃ M : Nat, t % 201 = (M : Int) := ⟨(t % 201).toNat, by omega⟩
  have hM1 : M ≤ 200 := by omega
  go_enter Try.func9, Try.ntmps9
  go_wp2_with fail
  refine (newRing_any a len cap zs w hrow).mono ?_
  rintro e w1 ⟨rb, hrb, rfl, hb1, r1⟩
  go_wp2_with fail
  refine (kickOf_any rb a len cap zs 0 (by omega) w1 r1).mono ?_
  rintro e w2 ⟨r, g, r0, r00, g0, g00, rfl, k2, -⟩
  have hb2 : Below w.heap.size w w2 := hb1.trans (k2.below hrb hb1.size)
  have hk : kickB r g = true := by simp [kickB, wi]; omega
  clear k2 r1 hb1 hrow ht
  go_wp2_with fail
  obtain ⟨W3, hW3⟩ : ∃ W3 : World, w2.alloc (.cells #[.int .i64 r, .int .i64 g] 23) = W3 := ⟨_, rfl⟩
  have hs3 : KS w2 w2.heap.size r g W3 := by
    rw [← hW3]
    exact ⟨⟨(Below.refl _ _).alloc (Nat.le_refl _) _, by simp⟩, by simp [go_sem], by simp [go_sem]⟩
  rw [hW3]
  clear hW3
  go_loopg [6, 7] (M + 1) (fun gg v6 v7 wr => ∃ n : Nat, n + gg = M + 1 ∧ v7 = .int .i64 n ∧ v6 = .int .i64 (gainV r g n) ∧ KS w2 w2.heap.size r g wr)
  case atStart => exact ⟨0, by omega, rfl, by rw [show ((0 : Nat) : Int) = 0 from rfl, gain_zero], hs3⟩
  case round =>
    clear hs3
    obtain ⟨n, hn, rfl, rfl, hS⟩ := hrel
    have hMT : ∀ w' : World, Calls Try.prog 48 #[.int .i64 t, .int .i64 201] w' fun e w'' => e = .returned (.int .i64 (M : Int)) ∧ w' = w'' := fun w' => by rw [← hM]; exact mod64_any t 201 t0 t1 (by omega) (by omega) w'
    have HM := (show Aside (∀ w' : World, Calls Try.prog 48 #[.int .i64 t, .int .i64 201] w' fun e w'' => e = .returned (.int .i64 (M : Int)) ∧ w' = w'') from hMT)
    clear hMT hM
    cases gk with
    | zero =>
      have hnM : (M : Int) < (n : Int) := by omega
      have hbE := hb2.trans (hS.1.bel.mono hb2.size)
      have hsz : w.heap.size ≤ wr.heap.size := hbE.size
      clear hS
      go_wp2_with (first
        | (go_at_call 48; refine (HM.out _).mono ?_; rintro e w' ⟨rfl, rfl⟩)
        | (go_at_call 11; refine (awake_any _).mono ?_; rintro e w5 ⟨rfl, hb5⟩))
      go_ret
      exact ⟨rfl, bel_trans hbE hb5⟩
    | succ gk =>
      have hnM : (n : Int) ≤ (M : Int) := by omega
      obtain ⟨f0, f1⟩ := flow_bd (r := r) (g := g) (n := n) ⟨r0, by omega⟩ ⟨g0, by omega⟩ (by omega)
      obtain ⟨f2, f3⟩ := gain_bd (r := r) (g := g) (n := n) ⟨r0, by omega⟩ ⟨g0, by omega⟩ (by omega)
      have hmono := flow_mono r g g0 n
      have hn200 : (n : Int) ≤ 20000 := by omega
      have hS' := hS
      obtain ⟨hS1, hS2, hS3⟩ := hS'
      go_wp2_with (go_at_call 48; refine (HM.out _).mono ?_; rintro e w' ⟨rfl, rfl⟩)
      have hnm : ¬ flowV r g n < flowV r g 0 := by omega
      go_region_held3 (fun w' => KSt w2 w2.heap.size w' ∧ w'.cell? ⟨w2.heap.size, 0, none⟩ = some (.int .i64 r) ∧ w'.cell? ⟨w2.heap.size, 1, none⟩ = some (.int .i64 g))
        (refine ⟨?_, ?_, ?_⟩ <;> first | assumption | exact KSt.drew (by assumption) | (simp [*, go_sem]; done))
        (first
          | (go_at_call 22; refine (gain_ks w2 w2.heap.size r g n hk hn200 _ (by assumption)).mono ?_; rintro e w' ⟨rfl, c1, c2, c3⟩)
          | (go_at_call_of 20 (n : Int); refine (flow_ks w2 w2.heap.size r g n hk hn200 _ (by assumption)).mono ?_; rintro e w' ⟨rfl, c1, c2, c3⟩)
          | (go_at_call 20; refine (flow_ks w2 w2.heap.size r g 0 hk (by omega) _ (by assumption)).mono ?_; rintro e w' ⟨rfl, c1, c2, c3⟩))
      go_wp2_with (go_at_call 20; refine (flow_ks w2 w2.heap.size r g n hk hn200 _ ⟨by assumption, by assumption, by assumption⟩).mono ?_; rintro e w' ⟨rfl, d1, d2, d3⟩)
      go_roundg gk
      case measure => omega
      case rel =>
        refine ⟨n + 1, by omega, by first | rfl | go_num, ?_, ⟨d1, d2, d3⟩⟩
        rw [show ((n + 1 : Nat) : Int) = (n : Int) + 1 from rfl, gain_succ]

set_option maxRecDepth 100000 in
theorem liftedKickSums (os : Os) (started : os.Started) (H : Type) (enc : TypeId × Value → H) :
    ReturnsInHanded {} Try.checked os 9 .any (Rows.kickSumsSpec.pre6 enc Try.prog Try.f9 Rows.kickSumsRow.domain false) (Rows.kickSumsSpec.post enc Try.prog Try.f9 false true false false) := by
  refine returnsInHanded_of_change (C := Try.checked) own started (by kernel_rfl) Try.func9
    (ChangeSpec.witness6 (enc := enc) (C := Try.checked) false ⟨#[], #[.slice none 0 0, .int .i64 0], []⟩ 16 (by kernel_rfl) (by kernel_rfl) (by kernel_rfl) (by kernel_rfl)) ?_
  intro W base args ds gs before hval0 hW hcnd _
  have hval : ∀ (j : Nat) t v, Try.f9.params[j]? = some t → args[j]? = some v → Value.okWide Try.prog W .any base t v := hval0
  have hW' := hW
  obtain ⟨p, q, hA0, hV, rfl, hfz, hnd⟩ := hW
  have hA : DataW.TrodAll enc Try.prog W 0 (fun _ => true) true Try.f9.params.toList args.toList ds p := hA0
  rw [Try.params9] at hA hval
  obtain ⟨v0, vs0, d0, ds0, p0, q0, hargs, rfl, rfl, h0, r0⟩ := trodAll_cons hA
  obtain ⟨v1, vs1, d1, ds1, p1, q1, rfl, rfl, rfl, h1, r1⟩ := trodAll_cons r0
  obtain ⟨rfl, rfl, rfl⟩ := trodAll_nil r1
  obtain rfl : args = #[v0, v1] := by cases args; simp_all
  obtain ⟨rfl, rfl⟩ := trodVars_none hV
  have k0 := h0
  have lt0 : ∀ x ∈ p0, x.block < W.heap.size := by obtain ⟨m, hm⟩ := k0; exact DataW.trod_lt m _ _ _ hm
  obtain ⟨a0, len0, cap0, z0, rfl, w0⟩ := val_ints Try.underlying41 Try.underlying3 (by kernel_rfl) (hval 0 _ v0 rfl rfl) h0
  have k1 := h1
  have lt1 : ∀ x ∈ p1, x.block < W.heap.size := by obtain ⟨m, hm⟩ := k1; exact DataW.trod_lt m _ _ _ hm
  obtain ⟨a1, rfl, b1⟩ := val_int (by kernel_rfl) (hval 1 _ v1 rfl rfl)
  clear hA0 hval0
  refine (walkSums W a0 len0 cap0 z0 w0 a1 b1).mono fun e W' ⟨he, bel⟩ => ?_
  subst he
  exact ⟨_, rfl, _, _, _, [], _, [], hW', trodAll_mk1 (shut_bool Try.underlying4 _), (trodAll_cons_mk (Below.trod laidOut (by kernel_rfl) (of_decide_eq_true (by kernel_rfl)) k0 bel lt0) (trodAll_cons_mk (Below.trod laidOut (by kernel_rfl) (of_decide_eq_true (by kernel_rfl)) k1 bel lt1) trodAll_mk0)), rfl, bel.frame _, fun h => by cases h⟩

/-- KickSums returns true for every input. -/
theorem kickSums_holds : Rows.KickSumsSaid :=
  OpenClaim.holds_of_wide 9 Try.f9 rfl rfl rfl rfl rfl rfl rfl ⟨rfl, rfl, rfl, rfl, rfl⟩ rfl rfl rfl rfl rfl (by kernel_rfl) Try.func9 (by kernel_rfl)
    (of_decide_eq_true (by kernel_rfl)) (by unfold Func.isWrapper; first | (rw [if_pos (by decide +kernel)]; kernel_rfl) | (rw [if_neg (by decide +kernel)]; exact ⟨rfl, rfl⟩))
    (fun os started H enc _ => liftedKickSums os started H enc)

end Go.Proofs.Ytdjmidoegidlbaa
