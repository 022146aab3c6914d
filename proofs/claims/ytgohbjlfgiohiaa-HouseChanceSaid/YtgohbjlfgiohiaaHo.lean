/- A blow-out made of numbers. -/
import Derived.Test.YtgohbjlfgiohiaaHn
import Derived.Test.YtgohbjlfgiohiaaHg
import Derived.Test.YtgohbjlfgiohiaaQu
import Derived.Laws.Rows
namespace Go.Proofs.Ytgohbjlfgiohiaa
open Go.RowKit

theorem own_cells {w : World} {B : Nat} {ty : TypeId} {n : Nat} {v : Value} {xs : List Value} (h : w.ownsRow B ty 1 v n xs) (hn : 0 < n) :
    ∃ p cap cur, v = .slice (some ⟨p, 0, none⟩) n cap ∧ B ≤ p ∧ w.heap[p]? = some (.cells cur ty (0, 0)) ∧ ∀ q, q < n → cur[q]? = xs[q]? := by
  rcases h.2 with ⟨_, e⟩ | ⟨g, cap, cur, rfl, hb, hg, _, _, _, ht⟩
  · omega
  · refine ⟨g, cap, cur, rfl, hb, hg, fun q hq => ?_⟩
    rw [← ht, List.getElem?_take, if_pos (by omega)]
    simp
theorem below_drewN {w : World} (n : Nat) (B : Nat) : Below B w (w.drewN n) := ⟨rfl, rfl, rfl, Nat.le_refl _, fun _ _ => rfl⟩
/-- How many states; which are lost; how many moves; where they lead. -/
def bN (len : Nat) (lv : Nat → Int) : Nat := if len = 0 then 1 else 1 + (lv 0 % 12).toNat
def bLost (len : Nat) (lv : Nat → Int) (i : Nat) : Bool := atF len lv (5 * i + 1) % 4 == 0
def bLen (len : Nat) (lv : Nat → Int) (i : Nat) : Nat := (atF len lv (5 * i + 2) % 3).toNat + 1
def bMv (len : Nat) (lv : Nat → Int) (i k : Nat) : Int := atF len lv (5 * i + 3 + k) % (bN len lv : Int)
theorem bN_bd (len : Nat) (lv : Nat → Int) : 1 ≤ bN len lv ∧ bN len lv ≤ 12 := by
  unfold bN; split <;> omega
theorem b_ok (len : Nat) (lv : Nat → Int) : Okb (bN len lv) (bLen len lv) (bMv len lv) := by
  obtain ⟨h1, h2⟩ := bN_bd len lv
  refine ⟨h1, by omega, fun i _ => by unfold bLen; omega, fun i _ => by unfold bLen; omega, fun i k _ _ => Int.emod_nonneg _ (by omega), fun i k _ _ => Int.emod_lt_of_pos _ (by omega)⟩
def BlowOut (w : World) (len : Nat) (lv : Nat → Int) (e : Ending) (w' : World) : Prop :=
  ∃ lb mb lc mc P C, e = .returned (.agg (bv lb 0 mb 0 (bN len lv) lc mc)) ∧ BIs w' lb 0 mb 0 (bN len lv) (bLost len lv) P (fun _ => 0) C (bLen len lv) (bMv len lv) ∧ Below w.heap.size w w'
set_option maxRecDepth 100000 in
set_option maxHeartbeats 4000000 in
theorem blow_any (ra : Option Addr) (len cp : Nat) (lv : Nat → Int) (w : World) (hl : len ≤ 9223372036854775807) (hm : IsL w ra len lv)
    (hb : ∀ k, k < len → -9223372036854775808 ≤ lv k ∧ lv k ≤ 9223372036854775807) :
    Calls Try.prog 27 #[.slice ra len cp] w (BlowOut w len lv) := by
  have hmf : ∀ (fn : Fn) (first cap : Array Value) (w : World), (Instr.makeFunc fn first cap).run Try.prog w = .ok (.func fn first cap) w := fun _ _ _ _ => rfl
  have HE : Aside (∀ (args : Array Value) (w : World), (callFunc 44 args).run Try.prog w = .ok (.enter 44 args) w) := fun args w => call_enter Try.func44 (by kernel_rfl) (by kernel_rfl) args w
  obtain ⟨N, hN⟩ : ∃ N, N = bN len lv := ⟨_, rfl⟩
  have hNb := bN_bd len lv
  rw [← hN] at hNb
  have HN : Aside (N = bN len lv) := hN
  have HM : Aside (IsL w ra len lv) := hm
  have HB : Aside (∀ k, k < len → -9223372036854775808 ≤ lv k ∧ lv k ≤ 9223372036854775807) := hb
  clear hm hb hN
  obtain ⟨i0, hi, hz0, hz1, hz2⟩ := info_parts info_bool
  have HI0 : Aside (Try.prog.info? 4 = some i0 ∧ i0.zero = some (.bool false) ∧ i0.size = 1 ∧ i0.bytes = 1) := ⟨hi, hz0, hz1, hz2⟩
  clear hi hz0 hz1 hz2
  obtain ⟨i1, hi, hz0, hz1, hz2⟩ := info_parts info_ints
  have HI1 : Aside (Try.prog.info? 26 = some i1 ∧ i1.zero = some (.slice none 0 0) ∧ i1.size = 1 ∧ i1.bytes = 24) := ⟨hi, hz0, hz1, hz2⟩
  clear hi hz0 hz1 hz2
  obtain ⟨i2, hi, hz0, hz1, hz2⟩ := info_parts info_int
  have HI2 : Aside (Try.prog.info? 3 = some i2 ∧ i2.zero = some (.int .i64 0) ∧ i2.size = 1 ∧ i2.bytes = 8) := ⟨hi, hz0, hz1, hz2⟩
  clear hi hz0 hz1 hz2
  go_enter Try.func27, Try.ntmps27
  go_upto_region 1 with fail
  obtain ⟨wa, hwa⟩ : ∃ wa, wa = w.alloc (.cells #[.slice ra len cp] 26) := ⟨_, rfl⟩
  obtain ⟨w0, hw0⟩ : ∃ w0, w0 = wa.alloc (.cells #[.slice none 0 0, .slice none 0 0] 25) := ⟨_, rfl⟩
  have c0 : w0.cell? ⟨w.heap.size, 0, none⟩ = some (.slice ra len cp) := by rw [hw0, hwa]; simp [go_sem]
  have hs0 : w0.heap.size = w.heap.size + 2 := by rw [hw0, hwa]; simp
  have bw0 : Below w.heap.size w w0 := by rw [hw0, hwa]; go_grown
  have X0 : Aside (w0.cell? ⟨w.heap.size + 1, 0, none⟩ = some (.slice none 0 0) ∧ w0.cell? ⟨w.heap.size + 1, 1, none⟩ = some (.slice none 0 0) ∧ w0.frozen? ⟨w.heap.size + 1, 0, none⟩ = false ∧ w0.frozen? ⟨w.heap.size + 1, 1, none⟩ = false) := by
    rw [hw0, hwa]; exact ⟨by simp [go_sem], by simp [go_sem], by simp [go_sem], by simp [go_sem]⟩
  rw [← hwa, ← hw0]
  have HS0 : Aside (w0.heap.size = w.heap.size + 2) := hs0
  have HM0 : Aside (IsL w0 ra len lv) := HM.out.below bw0
  clear hw0 hwa hs0
  go_upto_region 1 with fail
  repeat ((fail_if_success guard_target =~ Code.wp _ (Code.seq (Code.seq _ _) _) _ _ _); go_step)
  apply wp_seq_k; intro _ _
  go_cut [3] (fun s3 wx => s3 = .int .i64 N ∧ w0 = wx)
  · by_cases h0 : len = 0
    · have e : N = 1 := by rw [HN.out]; unfold bN; rw [if_pos h0]
      subst h0
      go_wp2_with fail
      go_meet
      exact ⟨by rw [e]; rfl, rfl⟩
    · have h1 : (0 : Int) < len := by omega
      obtain ⟨b, o, rfl, hc⟩ : ∃ b o, ra = some ⟨b, o, none⟩ ∧ w0.cell? ⟨b, o, none⟩ = some (.int .i64 (lv 0)) := by
        rcases HM0.out with h | ⟨b, o, rfl, h⟩
        · omega
        · exact ⟨b, o, rfl, h 0 (by omega)⟩
      obtain ⟨b0, b1⟩ := HB.out 0 (by omega)
      have HE2 : Aside (1 + lv 0 % 12 = (N : Int)) := by show _ = _; rw [HN.out]; unfold bN; rw [if_neg h0]; omega
      clear h0
      go_wp2_with (go_at_call 28; refine (mod_any _ _ (by omega) (by omega) (by omega) (by omega) _).mono ?_; rintro e w' ⟨rfl, rfl⟩)
      go_meet
      exact ⟨by rw [HE2.out], rfl⟩
  obtain ⟨rfl, rfl⟩ := hcut
  go_upto_region 6 with fail
  obtain ⟨W, hW⟩ : ∃ W, W = w0.alloc (.cells #[.slice none 0 0, .slice none 0 0] 25) := ⟨_, rfl⟩
  have B0 : Bld w0 (w.heap.size + 2) 0 0 (bLost len lv) (fun _ => 0) (fun _ => 0) (bLen len lv) (bMv len lv) (.slice none 0 0) (.slice none 0 0) W := by
    rw [hW, ← HS0.out]
    exact ⟨by go_grown, Nat.le_refl _, by simp [go_sem], by simp [go_sem], by simp [go_sem], by simp [go_sem], World.ownsRow_nil _ _ _ _, World.ownsRow_nil _ _ _ _, fun k hk => absurd hk (by omega)⟩
  have HB0 : Aside (Bld w0 (w.heap.size + 2) 0 0 (bLost len lv) (fun _ => 0) (fun _ => 0) (bLen len lv) (bMv len lv) (.slice none 0 0) (.slice none 0 0) W) := B0
  have H0 : Aside (w0.cell? ⟨w.heap.size, 0, none⟩ = some (.slice ra len cp)) := c0
  have hsz : w0.heap.size = w.heap.size + 2 := HS0.out
  rw [hsz, ← hW]
  clear hW B0 c0 hsz
  go_wp2_with fail
  go_loopg [6] N (fun f v wr => ∃ (i : Nat) (P C : Nat → Nat) (v1 v2 : Value), v = .int .i64 i ∧ i + f = N ∧ Bld w0 (w.heap.size + 2) i i (bLost len lv) P C (bLen len lv) (bMv len lv) v1 v2 wr)
  case atStart => exact ⟨0, _, _, _, _, rfl, by omega, HB0.out⟩
  case round =>
    clear HB0
    obtain ⟨i, P, C, v1, v2, rfl, hi, hB⟩ := hrel
    have HBl : Aside (Bld w0 (w.heap.size + 2) i i (bLost len lv) P C (bLen len lv) (bMv len lv) v1 v2 wr) := hB
    clear hB
    have c0 : wr.cell? ⟨w.heap.size, 0, none⟩ = some (.slice ra len cp) := (HBl.out.old.cell (p := ⟨w.heap.size, 0, none⟩) (lt_of_cell H0.out)).trans H0.out
    have HMr : Aside (IsL wr ra len lv) := HM0.out.below HBl.out.old
    by_cases hend : i < N
    · have hend' : (i : Int) < (N : Int) := by omega
      obtain ⟨f, rfl⟩ : ∃ f, gk = f + 1 := ⟨gk - 1, by omega⟩
      obtain ⟨ao1, cp1, rfl⟩ := own_slice HBl.out.o1
      obtain ⟨ao2, cp2, rfl⟩ := own_slice HBl.out.o2
      have g0 := HBl.out.c0
      obtain ⟨A, hA⟩ : ∃ A, A = atF len lv (5 * i + 1) := ⟨_, rfl⟩
      obtain ⟨A0, A1⟩ := atF_bd len lv (5 * i + 1)
      have hcall : ∀ w2, (∃ m, w2 = wr.drewN m) → Calls Try.prog 44 #[.int .i64 (5 * (i : Int) + 1), .pointer (some ⟨w.heap.size, 0, none⟩)] w2 fun e w' => e = .returned (.int .i64 A) ∧ ∃ m, w' = wr.drewN m := by
        rintro w2 ⟨m, rfl⟩
        have h := at_any w.heap.size ra len cp lv (5 * i + 1) (by omega) (wr.drewN m) hl c0 (HMr.out.below (below_drewN m _)) HB.out
        rw [show ((5 * i + 1 : Nat) : Int) = 5 * (i : Int) + 1 by simp, ← hA] at h
        refine h.mono ?_
        rintro e w' ⟨rfl, q, rfl⟩
        exact ⟨rfl, m + q, by simp [World.drewN, Nat.add_assoc]⟩
      have HC : Aside (∀ w2, (∃ m, w2 = wr.drewN m) → Calls Try.prog 44 #[.int .i64 (5 * (i : Int) + 1), .pointer (some ⟨w.heap.size, 0, none⟩)] w2 fun e w' => e = .returned (.int .i64 A) ∧ ∃ m, w' = wr.drewN m) := hcall
      rw [← hA] at A0 A1
      have HA : Aside (A = atF len lv (5 * i + 1)) := hA
      clear hcall hA
      go_upto_region 9 with fail
      have m1 : IntKind.i64.wrap (5 * (i : Int)) = 5 * (i : Int) := IntWalk.i64_in _ (by omega)
      have m2 : IntKind.i64.wrap (5 * (i : Int) + 1) = 5 * (i : Int) + 1 := IntWalk.i64_in _ (by omega)
      obtain ⟨b, hbb⟩ : ∃ b, b = (A % 4 == 0) := ⟨_, rfl⟩
      have HBL : Aside (bLost len lv i = b) := by show _ = _; rw [hbb, HA.out]; rfl
      have hbb' : (A.tmod 4 == 0) = b := by rw [hbb, Int.tmod_eq_emod_of_nonneg A0]
      clear hbb
      have hH : wr.drew.cell? ⟨w.heap.size + 2, 0, none⟩ = some (.slice ao1 i cp1) := g0
      refine wp_region_U (fun w' => w'.cell? ⟨w.heap.size + 2, 0, none⟩ = some (.slice ao1 i cp1)) 12 (by kernel_rfl) ?_
      repeat (
        (first
          | (refine anyU_take (i := 0) (v := ?_) (some 23) rfl (by decide) rfl (by decide +kernel) (by decide +kernel) (by decide +kernel) (fun _ _ _ h => h) (Or.inl ⟨by rfl, ?_⟩) (fun h => by first | assumption | exact absurd h (by decide)) ?_; rotate_left; focus (intro w hSw; (try dsimp only at hSw); go_simp; first | done | with_reducible rfl))
          | (refine anyU_take (i := 2) (v := ?_) (some 25) rfl (by decide) rfl (by decide +kernel) (by decide +kernel) (by decide +kernel) (fun _ _ _ h => h) (Or.inl ⟨by rfl, ?_⟩) (fun h => by first | assumption | exact absurd h (by decide)) ?_; rotate_left; focus (intro w hSw; (try dsimp only at hSw); go_simp; first | done | with_reducible rfl))
          | (refine anyU_take (i := 3) (v := ?_) (some 26) rfl (by decide) rfl (by decide +kernel) (by decide +kernel) (by decide +kernel) (fun _ _ _ h => h) (Or.inl ⟨by rfl, ?_⟩) (fun h => by first | assumption | exact absurd h (by decide)) ?_; rotate_left; focus (intro w hSw; (try dsimp only at hSw); go_simp; first | done | with_reducible rfl))
          | (refine anyU_take (i := 4) (v := ?_) (some 27) rfl (by decide) rfl (by decide +kernel) (by decide +kernel) (by decide +kernel) (fun _ _ _ h => h) (Or.inl ⟨by rfl, ?_⟩) (fun h => by first | assumption | exact absurd h (by decide)) ?_; rotate_left; focus (intro w hSw; (try dsimp only at hSw); go_simp; first | done | with_reducible rfl))
          | (refine anyU_take (i := 5) (v := ?_) (some 28) rfl (by decide) rfl (by decide +kernel) (by decide +kernel) (by decide +kernel) (fun _ _ _ h => h) (Or.inl ⟨by rfl, ?_⟩) (fun h => by first | assumption | exact absurd h (by decide)) ?_; rotate_left; focus (intro w hSw; (try dsimp only at hSw); go_simp; first | done | with_reducible rfl))
          | (refine anyU_takeS (i := 1) (v := ?_) (some 24) rfl (by decide) rfl (by decide +kernel) (by decide +kernel) (by decide +kernel) (by decide +kernel) (by rfl) (fun _ _ _ h => h) (Or.inl ⟨by rfl, ?_⟩) (by assumption) ?_; rotate_left; focus (intro w hSw; (try dsimp only at hSw); go_simp; first | done | with_reducible rfl))
          | (refine anyU_ready (rs := [6]) (by decide +kernel) (by simp) (AllU.cons rfl (fun K hK => ?_) AllU.nil); (go_simp; refine (HC.out _ ⟨1, rfl⟩).mono ?_; rintro e w' ⟨rfl, m, rfl⟩; have hH : (wr.drewN m).cell? ⟨w.heap.size + 2, 0, none⟩ = some (.slice ao1 i cp1) := g0; have HBl1 : Aside (Bld w0 (w.heap.size + 2) i i (bLost len lv) P C (bLen len lv) (bMv len lv) (.slice ao1 i cp1) (.slice ao2 i cp2) ((wr.drewN m).alloc (.cells #[.bool b] 4))) := HBl.out.below ((below_drewN m _).alloc (Nat.le_refl _) _)); refine hK.out _ _ (fun h => by first | assumption | exact absurd h (by decide)) ?_; clear hK K)
          | (refine anyU_take (i := 7) (v := ?_) (some 30) rfl (by decide) rfl (by decide +kernel) (by decide +kernel) (by decide +kernel) (fun _ _ _ h => h) (Or.inl ⟨by rfl, ?_⟩) (fun h => by first | assumption | exact absurd h (by decide)) ?_; rotate_left; focus (intro w hSw; (try dsimp only at hSw); go_simp; first | done | with_reducible rfl))
          | (refine anyU_take (i := 8) (v := ?_) (some 31) rfl (by decide) rfl (by decide +kernel) (by decide +kernel) (by decide +kernel) (fun _ _ _ h => h) (Or.inl ⟨by rfl, ?_⟩) (fun h => by first | assumption | exact absurd h (by decide)) ?_; rotate_left; focus (intro w hSw; (try dsimp only at hSw); go_simp; first | done | with_reducible rfl))
          | (refine anyU_ready (rs := [9]) (by decide +kernel) (by simp) (AllU.cons rfl (fun K hK => ?_) AllU.nil); (go_simp; have hH := HBl1.out.c0); refine hK.out _ _ (fun h => by first | assumption | exact absurd h (by decide)) ?_; clear hK K)
          | (refine anyU_ready (rs := [10]) (by decide +kernel) (by simp) (AllU.cons rfl (fun K hK => ?_) AllU.nil); (rw [if_pos (by rfl)]; refine wp_append_own _ (.tmp 24) (.tmp 32) 22 rfl (w.heap.size + 2 + 1) 4 i0 (.bool false) 1 1 Try.underlying22 HI0.out.1 HI0.out.2.1 HI0.out.2.2.1 HI0.out.2.2.2 rfl (by decide) _ _ _ rfl HBl1.out.o1 ⟨wr.heap.size, 0, none⟩ 1 1 [.bool b] rfl rfl (cells1 _ _ _) oneB (by unfold maxLen; omega) (by omega) (by have := HBl.out.lt; simp; omega) ?_; intro v' w5 hown' hgrow _; obtain ⟨ao, cp', rfl⟩ := own_slice hown'; obtain ⟨hH, g2⟩ := HBl1.out.stay0 hgrow; have HB2 : Aside (Bld w0 (w.heap.size + 2) (i + 1) i (bLost len lv) P C (bLen len lv) (bMv len lv) _ _ _) := HBl1.out.addLost HBL.out hown' hgrow; clear hown' hgrow); refine hK.out _ _ (fun h => by first | assumption | exact absurd h (by decide)) ?_; clear hK K)
          | (refine anyU_take (i := 11) (v := ?_) (some 34) rfl (by decide) rfl (by decide +kernel) (by decide +kernel) (by decide +kernel) (fun _ _ _ h => h) (Or.inl ⟨by rfl, ?_⟩) (fun h => by first | assumption | exact absurd h (by decide)) ?_; rotate_left; focus (intro w hSw; (try dsimp only at hSw); go_simp; first | done | with_reducible rfl))
          | (refine anyU_ready (rs := [12]) (by decide +kernel) (by simp) (AllU.cons rfl (fun K hK => ?_) AllU.nil); go_simp; refine hK.out _ _ (fun h => by first | assumption | exact absurd h (by decide)) ?_; clear hK K));
        (try simp only [Act.put, List.setIfInBounds_toArray, List.set_cons_zero, List.set_cons_succ]))
      refine anyU_done (by decide +kernel) ?_
      obtain ⟨W2, hW2⟩ : ∃ W2, W2 = w5.setCell ⟨w.heap.size + 2, 0, none⟩ (.slice ao (i + 1) cp') := ⟨_, rfl⟩
      rw [← hW2] at HB2 ⊢
      clear hW2 hH g2 HBl1 HBL hbb' m1 m2 HC HA A0 A1 g0 HBl c0 HMr
      have hlt2 : w.heap.size + 2 < W2.heap.size := HB2.out.lt
      have c0 : W2.cell? ⟨w.heap.size, 0, none⟩ = some (.slice ra len cp) := (HB2.out.old.cell (p := ⟨w.heap.size, 0, none⟩) (lt_of_cell H0.out)).trans H0.out
      have HMr : Aside (IsL W2 ra len lv) := HM0.out.below HB2.out.old
      obtain ⟨M, hM⟩ : ∃ M : Nat, M = (atF len lv (5 * i + 2) % 3).toNat := ⟨_, rfl⟩
      have hMi : atF len lv (5 * i + 2) % 3 = (M : Int) := by have := atF_bd len lv (5 * i + 2); omega
      have HMI : Aside (bLen len lv i = M + 1) := by show _ = _; unfold bLen; rw [← hM]
      have hM2 : M ≤ 2 := by omega
      obtain ⟨A, hA⟩ : ∃ A, A = atF len lv (5 * i + 2) := ⟨_, rfl⟩
      obtain ⟨A0, A1⟩ := atF_bd len lv (5 * i + 2)
      have hcall : ∀ w2, Below W2.heap.size W2 w2 → Calls Try.prog 44 #[.int .i64 (5 * (i : Int) + 2), .pointer (some ⟨w.heap.size, 0, none⟩)] w2 fun e w' => e = .returned (.int .i64 A) ∧ ∃ m, w' = w2.drewN m := by
        intro w2 hb2
        have h := at_any w.heap.size ra len cp lv (5 * i + 2) (by omega) w2 hl ((hb2.cell (p := ⟨_, _, _⟩) (lt_of_cell c0)).trans c0) (HMr.out.below hb2) HB.out
        rw [show ((5 * i + 2 : Nat) : Int) = 5 * (i : Int) + 2 by simp, ← hA] at h
        exact h
      have HC2 : Aside (∀ w2, Below W2.heap.size W2 w2 → Calls Try.prog 44 #[.int .i64 (5 * (i : Int) + 2), .pointer (some ⟨w.heap.size, 0, none⟩)] w2 fun e w' => e = .returned (.int .i64 A) ∧ ∃ m, w' = w2.drewN m) := hcall
      have hcall3 : ∀ k : Nat, k ≤ 2 → ∀ w2, Below W2.heap.size W2 w2 → Calls Try.prog 44 #[.int .i64 (5 * (i : Int) + 3 + (k : Int)), .pointer (some ⟨w.heap.size, 0, none⟩)] w2 fun e w' => e = .returned (.int .i64 (atF len lv (5 * i + 3 + k))) ∧ ∃ m, w' = w2.drewN m := by
        intro k hk w2 hb2
        have h := at_any w.heap.size ra len cp lv (5 * i + 3 + k) (by omega) w2 hl ((hb2.cell (p := ⟨_, _, _⟩) (lt_of_cell c0)).trans c0) (HMr.out.below hb2) HB.out
        rw [show ((5 * i + 3 + k : Nat) : Int) = 5 * (i : Int) + 3 + (k : Int) by simp] at h
        exact h
      have HC3 : Aside (∀ k : Nat, k ≤ 2 → ∀ w2, Below W2.heap.size W2 w2 → Calls Try.prog 44 #[.int .i64 (5 * (i : Int) + 3 + (k : Int)), .pointer (some ⟨w.heap.size, 0, none⟩)] w2 fun e w' => e = .returned (.int .i64 (atF len lv (5 * i + 3 + k))) ∧ ∃ m, w' = w2.drewN m) := hcall3
      rw [← hA] at A0 A1 hMi
      clear hcall hcall3 hA hM c0
      have g0 := HB2.out.c1
      go_wp2_with fail
      clear g0
      go_loopg [7, 8] (M + 1) (fun g v7 v8 wx => ∃ (k : Nat) (ma : Option Addr) (mc : Nat), v8 = .int .i64 k ∧ v7 = .slice ma k mc ∧ k + g = M + 1 ∧ wx.ownsRow W2.heap.size 3 1 (.slice ma k mc) k ((List.range k).map fun q => .int .i64 (bMv len lv i q)) ∧ Below W2.heap.size W2 wx)
      case atStart => exact ⟨0, none, 0, rfl, rfl, by omega, World.ownsRow_nil _ _ _ _, Below.refl _ _⟩
      case round =>
        obtain ⟨k, ma, mc, rfl, rfl, hk, hown, hbx⟩ := hrel
        have HO : Aside (wr.ownsRow W2.heap.size 3 1 (.slice ma k mc) k ((List.range k).map fun q => .int .i64 (bMv len lv i q))) := hown
        have HBX : Aside (Below W2.heap.size W2 wr) := hbx
        clear hown hbx
        go_wp2_with fail
        refine (HC2.out _ HBX.out).mono ?_
        rintro e w6 ⟨rfl, q, rfl⟩
        have HBY : Aside (Below W2.heap.size W2 (wr.drewN q)) := HBX.out.trans (below_drewN q _)
        have HO2 : Aside ((wr.drewN q).ownsRow W2.heap.size 3 1 (.slice ma k mc) k ((List.range k).map fun q => .int .i64 (bMv len lv i q))) := HO.out
        obtain ⟨wz, hwz⟩ : ∃ wz, wz = wr.drewN q := ⟨_, rfl⟩
        rw [← hwz] at HBY HO2 ⊢
        clear hwz HO HBX
        by_cases hkM : k ≤ M
        · have hkM' : (k : Int) ≤ (M : Int) := by omega
          obtain ⟨g, rfl⟩ : ∃ g, gk = g + 1 := ⟨gk - 1, by omega⟩
          have x1 : (0 : Int) ≤ 5 * (i : Int) + 3 + (k : Int) := by omega
          obtain ⟨Y, hY⟩ : ∃ Y, Y = atF len lv (5 * i + 3 + k) := ⟨_, rfl⟩
          obtain ⟨Y0, Y1⟩ := atF_bd len lv (5 * i + 3 + k)
          rw [← hY] at Y0 Y1
          have hC := HC3.out k (by omega)
          rw [← hY] at hC
          have HC4 : Aside (∀ w2, Below W2.heap.size W2 w2 → Calls Try.prog 44 #[.int .i64 (5 * (i : Int) + 3 + (k : Int)), .pointer (some ⟨w.heap.size, 0, none⟩)] w2 fun e w' => e = .returned (.int .i64 Y) ∧ ∃ m, w' = w2.drewN m) := hC
          have HY : Aside (bMv len lv i k = Y % (N : Int)) := by show _ = _; unfold bMv; rw [← hY, HN.out]
          have hN0 : ¬ (N : Int) = 0 := by omega
          have hz1 : Y.tmod (N : Int) = Y % (N : Int) := Int.tmod_eq_emod_of_nonneg Y0
          clear hC hY
          go_wp2_with fail
          refine (HC4.out _ HBY.out).mono ?_
          rintro e w7 ⟨rfl, q2, rfl⟩
          obtain ⟨Z, hZ⟩ : ∃ Z, Z = Y % (N : Int) := ⟨_, rfl⟩
          have hZ' : Y % (N : Int) = Z := hZ.symm
          have HZ : Aside (bMv len lv i k = Z) := by show _ = _; rw [HY.out, hZ]
          have HBZ : Aside (Below W2.heap.size W2 (wz.drewN q2)) := HBY.out.trans (below_drewN q2 _)
          have HO3 : Aside ((wz.drewN q2).ownsRow W2.heap.size 3 1 (.slice ma k mc) k ((List.range k).map fun q => .int .i64 (bMv len lv i q))) := HO2.out
          obtain ⟨wy, hwy⟩ : ∃ wy, wy = wz.drewN q2 := ⟨_, rfl⟩
          rw [← hwy] at HBZ HO3 ⊢
          clear hwy HO2 HBY HY hZ
          go_wp2_with (at_builtin; refine wpList_append_own _ rfl (.tmp 45) (.tmp 55) 26 rfl W2.heap.size 3 i2 (.int .i64 0) 1 8 Try.underlying26 HI2.out.1 HI2.out.2.1 HI2.out.2.2.1 HI2.out.2.2.2 rfl (by decide) _ _ _ rfl (HO3.out.alloc _) ⟨wy.heap.size, 0, none⟩ 1 1 [.int .i64 Z] rfl rfl (cells1 _ _ _) oneI (by unfold maxLen; omega) (by omega) (by have := HBZ.out.size; simp; omega) ?_; intro v' w8 hown' hgrow _; obtain ⟨ma', mc', rfl⟩ := own_slice hown'; have HB8 : Aside (Below W2.heap.size W2 w8) := (HBZ.out.alloc HBZ.out.size _).grown hgrow (by have := HBZ.out.size; simp; omega) (fun k' e => (HO3.out.lt k' e).1))
          go_roundg g
          case measure => omega
          case rel => exact ⟨k + 1, ma', mc', by simp, by simp, by omega, by rw [range_snoc, HZ.out]; exact hown', HB8.out⟩
        · have hkM' : ¬ (k : Int) ≤ (M : Int) := by omega
          have hkk : k = M + 1 := by omega
          obtain ⟨p, cap, cur, he, hp, hrow, hcur⟩ := own_cells HO2.out (by omega)
          injection he with he1 _ he2
          subst he1 he2
          have HP : Aside (W2.heap.size ≤ p ∧ wz.heap[p]? = some (.cells cur 3 (0, 0))) := ⟨hp, hrow⟩
          have HCU : Aside (∀ q, q < bLen len lv i → cur[q]? = some (.int .i64 (bMv len lv i q))) := by
            intro q hq
            rw [HMI.out] at hq
            rw [hcur q (by omega), List.getElem?_map, List.getElem?_range (by omega)]
            rfl
          have HB3 : Aside (Bld w0 (w.heap.size + 2) (i + 1) i (bLost len lv) P C (bLen len lv) (bMv len lv) (.slice ao (i + 1) cp') (.slice ao2 i cp2) wz) := HB2.out.below HBY.out
          have HKK : Aside (k = bLen len lv i) := by show _ = _; rw [HMI.out, hkk]
          have g0 := HB3.out.c1
          have HBa : Aside (Bld w0 (w.heap.size + 2) (i + 1) i (bLost len lv) P C (bLen len lv) (bMv len lv) (.slice ao (i + 1) cp') (.slice ao2 i cp2) (wz.alloc (.cells #[.slice (some ⟨p, 0, none⟩) k mc] 26))) := HB3.out.below (by go_grown)
          have HRa : Aside ((wz.alloc (.cells #[.slice (some ⟨p, 0, none⟩) k mc] 26)).heap[p]? = some (.cells cur 3 (0, 0))) := (heap_alloc_old _ _ (lt_heap HP.out.2)).trans HP.out.2
          clear hp hrow hcur hkk
          go_wp2_with (at_builtin; refine wpList_append_own _ rfl (.tmp 58) (.tmp 60) 23 rfl (w.heap.size + 2 + 1) 26 i1 (.slice none 0 0) 1 24 Try.underlying23 HI1.out.1 HI1.out.2.1 HI1.out.2.2.1 HI1.out.2.2.2 rfl (by decide) _ _ _ rfl HBa.out.o2 ⟨wz.heap.size, 0, none⟩ 1 1 [.slice (some ⟨p, 0, none⟩) k mc] rfl rfl (cells1 _ _ _) oneS (by unfold maxLen; omega) (by omega) (by have := HB3.out.lt; simp; omega) ?_; intro v' w9 hown' hgrow _; obtain ⟨ao3, cp3, rfl⟩ := own_slice hown'; obtain ⟨g1, g2⟩ := HBa.out.stay1 hgrow; have HB4 := HBa.out.addMoves (by have := HP.out.1; omega) HRa.out HCU.out (by rw [← HKK.out]; exact hown') hgrow)
          go_roundg f
          case measure => omega
          case rel => exact ⟨i + 1, _, _, _, _, by simp, by omega, HB4⟩
    · have hend' : ¬ (i : Int) < (N : Int) := by omega
      have hB : Bld w0 (w.heap.size + 2) N N (bLost len lv) P C (bLen len lv) (bMv len lv) v1 v2 wr := by rw [← show i = N by omega]; exact HBl.out
      obtain ⟨lb, mb, lc, mc, rfl, rfl, hI⟩ := hB.fin (by omega)
      have d0 := hB.c0
      have d1 := hB.c1
      have hs0 := HS0.out
      have x0 : wr.cell? ⟨w.heap.size + 1, 0, none⟩ = some (.slice none 0 0) := (hB.old.cell (p := ⟨w.heap.size + 1, 0, none⟩) (show w.heap.size + 1 < w0.heap.size by omega)).trans X0.out.1
      have x1 : wr.cell? ⟨w.heap.size + 1, 1, none⟩ = some (.slice none 0 0) := (hB.old.cell (p := ⟨w.heap.size + 1, 1, none⟩) (show w.heap.size + 1 < w0.heap.size by omega)).trans X0.out.2.1
      have x2 : wr.frozen? ⟨w.heap.size + 1, 0, none⟩ = false := (hB.old.frozen (p := ⟨w.heap.size + 1, 0, none⟩) (show w.heap.size + 1 < w0.heap.size by omega)).trans X0.out.2.2.1
      have x3 : wr.frozen? ⟨w.heap.size + 1, 1, none⟩ = false := (hB.old.frozen (p := ⟨w.heap.size + 1, 1, none⟩) (show w.heap.size + 1 < w0.heap.size by omega)).trans X0.out.2.2.2
      have HI : Aside (∀ w' : World, (∀ k, w.heap.size + 2 < k → w'.heap[k]? = wr.heap[k]?) → BIs w' lb 0 mb 0 N (bLost len lv) P (fun _ => 0) C (bLen len lv) (bMv len lv)) := hI
      have HO : Aside (Below w0.heap.size w0 wr) := hB.old
      clear hI hs0 c0
      go_wp2_with fail
      obtain ⟨WE, hWE⟩ : ∃ WE, WE = (wr.setCell ⟨w.heap.size + 1, 0, none⟩ (.slice (some ⟨lb, 0, none⟩) N lc)).setCell ⟨w.heap.size + 1, 1, none⟩ (.slice (some ⟨mb, 0, none⟩) N mc) := ⟨_, rfl⟩
      have e0 : WE.cell? ⟨w.heap.size + 1, 0, none⟩ = some (.slice (some ⟨lb, 0, none⟩) N lc) := by rw [hWE, cell_setCell_ne (by simp), World.cell?_setCell_same _ _ _ x0]
      have e1 : WE.cell? ⟨w.heap.size + 1, 1, none⟩ = some (.slice (some ⟨mb, 0, none⟩) N mc) := by rw [hWE]; exact World.cell?_setCell_same _ _ _ (by rw [cell_setCell_ne (by simp)]; exact x1)
      have e2 : ∀ k, w.heap.size + 2 < k → WE.heap[k]? = wr.heap[k]? := fun k hk => by rw [hWE, Below.heap_setCell _ _ _ _ (by simp; omega), Below.heap_setCell _ _ _ _ (by simp; omega)]
      have e3 : Below w.heap.size w WE := by rw [hWE]; exact ((bw0.trans (HO.out.mono (by have := HS0.out; omega))).setCell (Nat.le_succ _) _).setCell (Nat.le_succ _) _
      have HI2 := HI.out _ e2
      rw [← hWE]
      clear hWE e2 x0 x1 x2 x3 d0 d1 HI
      refine bodyPost_ret (v := .agg (bv lb 0 mb 0 N lc mc)) (by simp [results, Try.results27, go_sem, e0, e1]) rfl ?_
      rw [HN.out] at HI2 ⊢
      exact ⟨lb, mb, lc, mc, P, C, rfl, HI2, e3⟩
end Go.Proofs.Ytgohbjlfgiohiaa
