/- The contract of the program's Wild. -/
import Derived.Test.YtgohbjlfgiohiaaHg
import Derived.Laws.Rows
namespace Go.Proofs.Ytgohbjlfgiohiaa
open Go.RowKit

/-- The wild well: which states are lost, and where each one leads. -/
def wLost (L T : Nat) (i : Nat) : Bool := decide (i / (T + 1) = L)
def wMv (L R T : Nat) (i k : Nat) : Int := if i % (T + 1) = T then (i : Int) else ((min L (i / (T + 1) + R) * (T + 1) + i % (T + 1) + k : Nat) : Int)
theorem wild_div {T v c : Nat} (h : c < T + 1) : (v * (T + 1) + c) / (T + 1) = v := by
  rw [Nat.mul_comm, Nat.mul_add_div (by omega), Nat.div_eq_of_lt h]; rfl
theorem wild_mod {T v c : Nat} (h : c < T + 1) : (v * (T + 1) + c) % (T + 1) = c := by
  rw [Nat.mul_comm, Nat.mul_add_mod, Nat.mod_eq_of_lt h]
theorem wLost_at {L T i c : Nat} (h : c < T + 1) : wLost L T (i * (T + 1) + c) = ((i : Int) == (L : Int)) := by
  unfold wLost
  rw [wild_div h]
  by_cases e : i = L
  · subst e; simp
  · have e' : ¬ (i : Int) = L := by omega
    simp [e, e']
def WildOut (L R T : Nat) (w : World) (e : Ending) (w' : World) : Prop :=
  ∃ lb mb lc mc P C, e = .returned (.tuple #[.agg (bv lb 0 mb 0 ((L + 1) * (T + 1)) lc mc), .int .i64 0]) ∧ BIs w' lb 0 mb 0 ((L + 1) * (T + 1)) (wLost L T) P (fun _ => 0) C (fun _ => 2) (wMv L R T) ∧ Below w.heap.size w w'
set_option maxRecDepth 100000 in
set_option maxHeartbeats 4000000 in
theorem wild_ok (L R T : Nat) (l1 : 1 ≤ L) (l2 : L ≤ 15) (r1 : 1 ≤ R) (r2 : R ≤ 15) (t2 : T ≤ 3) (w : World) :
    Calls Try.prog 18 #[.int .i64 L, .int .i64 R, .int .i64 T] w (WildOut L R T w) := by
  have q1 : (1 : Int) ≤ L := by omega
  have q2 : (L : Int) ≤ 15 := by omega
  have q3 : (1 : Int) ≤ R := by omega
  have q4 : (R : Int) ≤ 15 := by omega
  have q5 : (0 : Int) ≤ T := by omega
  have q6 : (T : Int) ≤ 3 := by omega
  obtain ⟨N, hN⟩ : ∃ N, N = (L + 1) * (T + 1) := ⟨_, rfl⟩
  have hN2 : N ≤ 64 := by rw [hN]; exact Nat.le_trans (Nat.mul_le_mul (show L + 1 ≤ 16 by omega) (show T + 1 ≤ 4 by omega)) (by omega)
  have hN1 : 0 < N := by rw [hN]; exact Nat.mul_pos (by omega) (by omega)
  have hM : ((L : Int) + 1) * ((T : Int) + 1) = (N : Int) := by rw [hN]; simp
  have HM : Aside (((L : Int) + 1) * ((T : Int) + 1) = (N : Int)) := hM
  have HN : Aside (N = (L + 1) * (T + 1)) := hN
  have hN3 : ((L : Int) + 1) * ((T : Int) + 1) ≤ 64 := by omega
  have hN4 : 0 ≤ ((L : Int) + 1) * ((T : Int) + 1) := by omega
  clear hN hM
  obtain ⟨i0, hi, hz0, hz1, hz2⟩ := info_parts info_bool
  have HI0 : Aside (Try.prog.info? 4 = some i0 ∧ i0.zero = some (.bool false) ∧ i0.size = 1 ∧ i0.bytes = 1) := ⟨hi, hz0, hz1, hz2⟩
  clear hi hz0 hz1 hz2
  obtain ⟨i1, hi, hz0, hz1, hz2⟩ := info_parts info_ints
  have HI1 : Aside (Try.prog.info? 26 = some i1 ∧ i1.zero = some (.slice none 0 0) ∧ i1.size = 1 ∧ i1.bytes = 24) := ⟨hi, hz0, hz1, hz2⟩
  clear hi hz0 hz1 hz2
  go_enter Try.func18, Try.ntmps18
  go_upto_region 5 with fail
  go_wp2_with fail
  obtain ⟨w0, hw0⟩ : ∃ w0, w0 = w.alloc (.cells #[.slice none 0 0, .slice none 0 0] 25) := ⟨_, rfl⟩
  obtain ⟨W, hW⟩ : ∃ W, W = w0.alloc (.cells #[.slice none 0 0, .slice none 0 0] 25) := ⟨_, rfl⟩
  have hs0 : w0.heap.size = w.heap.size + 1 := by rw [hw0]; simp
  have HS0 : Aside (w0.heap.size = w.heap.size + 1) := hs0
  have B0 : Bld w0 (w.heap.size + 1) 0 0 (wLost L T) (fun _ => 0) (fun _ => 0) (fun _ => 2) (wMv L R T) (.slice none 0 0) (.slice none 0 0) W := by
    rw [hW, ← hs0]
    exact ⟨by go_grown, Nat.le_refl _, by simp [go_sem], by simp [go_sem], by simp [go_sem], by simp [go_sem], World.ownsRow_nil _ _ _ _, World.ownsRow_nil _ _ _ _, fun k hk => absurd hk (by omega)⟩
  have X0 : w0.cell? ⟨w.heap.size, 0, none⟩ = some (.slice none 0 0) ∧ w0.cell? ⟨w.heap.size, 1, none⟩ = some (.slice none 0 0) ∧ w0.frozen? ⟨w.heap.size, 0, none⟩ = false ∧ w0.frozen? ⟨w.heap.size, 1, none⟩ = false := by
    rw [hw0]; exact ⟨by simp [go_sem], by simp [go_sem], by simp [go_sem], by simp [go_sem]⟩
  have bw0 : Below w.heap.size w w0 := by rw [hw0]; go_grown
  have HX0 : Aside (w0.cell? ⟨w.heap.size, 0, none⟩ = some (.slice none 0 0) ∧ w0.cell? ⟨w.heap.size, 1, none⟩ = some (.slice none 0 0) ∧ w0.frozen? ⟨w.heap.size, 0, none⟩ = false ∧ w0.frozen? ⟨w.heap.size, 1, none⟩ = false) := X0
  have HB0 : Aside (Bld w0 (w.heap.size + 1) 0 0 (wLost L T) (fun _ => 0) (fun _ => 0) (fun _ => 2) (wMv L R T) (.slice none 0 0) (.slice none 0 0) W) := B0
  rw [← hw0, ← hW]
  clear hw0 hW hs0 B0 X0
  go_loopg [46] (L + 1) (fun f v wr => ∃ (i : Nat) (P C : Nat → Nat) (v1 v2 : Value), v = .int .i64 i ∧ i + f = L + 1 ∧ Bld w0 (w.heap.size + 1) (i * (T + 1)) (i * (T + 1)) (wLost L T) P C (fun _ => 2) (wMv L R T) v1 v2 wr)
  case atStart => exact ⟨0, _, _, _, _, rfl, by omega, by rw [Nat.zero_mul]; exact HB0.out⟩
  case round =>
    clear HB0
    obtain ⟨i, P, C, v1, v2, rfl, hi, hB⟩ := hrel
    have HB : Aside (Bld w0 (w.heap.size + 1) (i * (T + 1)) (i * (T + 1)) (wLost L T) P C (fun _ => 2) (wMv L R T) v1 v2 wr) := hB
    clear hB
    by_cases hend : i < L + 1
    · have hend' : (i : Int) < (L : Int) + 1 := by omega
      obtain ⟨f, rfl⟩ : ∃ f, gk = f + 1 := ⟨gk - 1, by omega⟩
      go_wp2_with fail
      go_loopg [51] (T + 1) (fun g v wx => ∃ (c : Nat) (P C : Nat → Nat) (v1 v2 : Value), v = .int .i64 c ∧ c + g = T + 1 ∧ Bld w0 (w.heap.size + 1) (i * (T + 1) + c) (i * (T + 1) + c) (wLost L T) P C (fun _ => 2) (wMv L R T) v1 v2 wx)
      case atStart => exact ⟨0, _, _, _, _, rfl, by omega, HB.out⟩
      case round =>
        clear HB
        obtain ⟨c, P, C, v1, v2, rfl, hc, hB⟩ := hrel
        have HB : Aside (Bld w0 (w.heap.size + 1) (i * (T + 1) + c) (i * (T + 1) + c) (wLost L T) P C (fun _ => 2) (wMv L R T) v1 v2 wr) := hB
        clear hB
        by_cases hce : c < T + 1
        · have hce' : (c : Int) < (T : Int) + 1 := by omega
          obtain ⟨g, rfl⟩ : ∃ g, gk = g + 1 := ⟨gk - 1, by omega⟩
          obtain ⟨K, hK⟩ : ∃ K, K = i * (T + 1) + c := ⟨_, rfl⟩
          obtain ⟨X, hX⟩ : ∃ X, X = min L (i + R) * (T + 1) + c := ⟨_, rfl⟩
          have HK : Aside (K = i * (T + 1) + c) := hK
          have HX : Aside (X = min L (i + R) * (T + 1) + c) := hX
          have b1 : i * (T + 1) ≤ 15 * 4 := Nat.mul_le_mul (by omega) (by omega)
          have b2 : min L (i + R) * (T + 1) ≤ 15 * 4 := Nat.mul_le_mul (by omega) (by omega)
          have b3 : (i : Int) * ((T : Int) + 1) = ((i * (T + 1) : Nat) : Int) := by simp
          have b4 : 0 ≤ (i : Int) * ((T : Int) + 1) := by omega
          have b5 : (i : Int) * ((T : Int) + 1) ≤ 60 := by omega
          have k2 : K ≤ 64 := by omega
          have x2 : X ≤ 64 := by omega
          have HT3 : Aside ((i : Int) * ((T : Int) + 1) + (c : Int) = (K : Int)) := by show _ = _; omega
          have hB2 := HB.out
          rw [← hK] at hB2
          clear hK hX HB b3 b1
          go_upto_region 12 with fail
          go_cut [11] (fun s11 wx => s11 = .int .i64 K ∧ wx = wr)
          · go_wp2_with fail
            go_meet
            exact ⟨by rw [HT3.out], rfl⟩
          obtain ⟨rfl, hwc⟩ := hcut
          rw [hwc]
          clear hwc b4 b5
          go_upto_region 13 with fail
          go_cut [12] (fun s12 wx => s12 = .int .i64 X ∧ wx = wr)
          · by_cases hm : L ≤ i + R
            · have hm' : (L : Int) ≤ (i : Int) + R := by omega
              have c3 : (L : Int) * ((T : Int) + 1) = ((L * (T + 1) : Nat) : Int) := by simp
              have c4 : L * (T + 1) ≤ 15 * 4 := Nat.mul_le_mul (by omega) (by omega)
              have c5 : 0 ≤ (L : Int) * ((T : Int) + 1) := by omega
              have c6 : (L : Int) * ((T : Int) + 1) ≤ 60 := by omega
              have HX2 : Aside ((L : Int) * ((T : Int) + 1) + (c : Int) = (X : Int)) := by show _ = _; rw [HX.out, Nat.min_eq_left hm]; omega
              clear c3 c4 hm b2
              go_wp2_with fail
              go_meet
              exact ⟨by rw [HX2.out], rfl⟩
            · have hm' : (i : Int) + R < (L : Int) := by omega
              have c3 : ((i : Int) + (R : Int)) * ((T : Int) + 1) = (((i + R) * (T + 1) : Nat) : Int) := by simp
              have c4 : (i + R) * (T + 1) ≤ 15 * 4 := Nat.mul_le_mul (by omega) (by omega)
              have c5 : 0 ≤ ((i : Int) + (R : Int)) * ((T : Int) + 1) := by omega
              have c6 : ((i : Int) + (R : Int)) * ((T : Int) + 1) ≤ 60 := by omega
              have HX2 : Aside (((i : Int) + (R : Int)) * ((T : Int) + 1) + (c : Int) = (X : Int)) := by show _ = _; rw [HX.out, Nat.min_eq_right (by omega)]; omega
              clear c3 c4 hm b2
              go_wp2_with fail
              go_meet
              exact ⟨by rw [HX2.out], rfl⟩
          obtain ⟨rfl, hwc⟩ := hcut
          rw [hwc]
          clear hwc b2
          have HB : Aside (Bld w0 (w.heap.size + 1) K K (wLost L T) P C (fun _ => 2) (wMv L R T) v1 v2 wr) := hB2
          clear hB2
          go_upto_region 14 with fail
          repeat ((fail_if_success guard_target =~ Code.wp _ (Code.seq (Code.seq _ _) _) _ _ _); go_step)
          apply wp_seq_k; intro _ _
          go_cut [13] (fun s13 wx => ∃ p, s13 = .slice (some ⟨p, 0, none⟩) 2 2 ∧ Below wr.heap.size wr wx ∧ w.heap.size + 1 < p ∧ ∃ cs, wx.heap[p]? = some (.cells cs 3 (0, 0)) ∧ ∀ q, q < 2 → cs[q]? = some (.int .i64 (wMv L R T K q)))
          · have hlt := HB.out.lt
            by_cases hcT : c = T
            · have hcT' : (c : Int) = T := by omega
              have HMv : Aside (∀ q, q < 2 → (#[Value.int .i64 K, Value.int .i64 K] : Array Value)[q]? = some (.int .i64 (wMv L R T K q))) := by
                intro q hq
                have e : wMv L R T K q = K := by unfold wMv; rw [HK.out, wild_mod hce, if_pos hcT]
                rw [e]
                match q, hq with
                | 0, _ => rfl
                | 1, _ => rfl
              clear hcT
              go_wp2_with fail
              go_meet
              exact ⟨_, rfl, by go_grown, by omega, _, by first | exact heap_alloc_new _ _ | simpa using heap_alloc_new (wr.alloc _) _, HMv.out⟩
            · have hcT' : (c : Int) < T := by omega
              have hcT2 : ¬ (c : Int) = T := by omega
              have HMv : Aside (∀ q, q < 2 → (#[Value.int .i64 X, Value.int .i64 (X + 1)] : Array Value)[q]? = some (.int .i64 (wMv L R T K q))) := by
                intro q hq
                have e : wMv L R T K q = ((X + q : Nat) : Int) := by unfold wMv; rw [HK.out, wild_mod hce, wild_div hce, if_neg hcT, HX.out]
                rw [e]
                match q, hq with
                | 0, _ => rfl
                | 1, _ => simp
              clear hcT
              go_wp2_with fail
              go_meet
              exact ⟨_, rfl, by go_grown, by omega, _, by first | exact heap_alloc_new _ _ | simpa using heap_alloc_new (wr.alloc _) _, HMv.out⟩
          obtain ⟨p, rfl, hbx, hp, cs, hrow, hcs⟩ := hcut
          have HP : Aside (w.heap.size + 1 < p) := hp
          have HCS : Aside (∀ q, q < 2 → cs[q]? = some (.int .i64 (wMv L R T K q))) := hcs
          have HROW : Aside (wc.heap[p]? = some (.cells cs 3 (0, 0))) := hrow
          have HB1 : Aside (Bld w0 (w.heap.size + 1) K K (wLost L T) P C (fun _ => 2) (wMv L R T) v1 v2 wc) := HB.out.below hbx
          clear HB hcs hrow hbx
          obtain ⟨ao1, cp1, rfl⟩ := own_slice HB1.out.o1
          obtain ⟨ao2, cp2, rfl⟩ := own_slice HB1.out.o2
          obtain ⟨W, hWW⟩ : ∃ W : World, W = wc := ⟨_, rfl⟩
          rw [← hWW] at HROW HB1 ⊢
          clear hWW
          have g0 := HB1.out.c0
          obtain ⟨b, hb⟩ : ∃ b, b = ((i : Int) == (L : Int)) := ⟨_, rfl⟩
          have HBL : Aside (wLost L T K = b) := by show _ = _; rw [hb, HK.out]; exact wLost_at hce
          have hb' : ((i : Int) == (L : Int)) = b := hb.symm
          clear hb
          have HBa : Aside (Bld w0 (w.heap.size + 1) K K (wLost L T) P C (fun _ => 2) (wMv L R T) (.slice ao1 K cp1) (.slice ao2 K cp2) (W.alloc (.cells #[.bool b] 4))) := HB1.out.below (by go_grown)
          have HRa : Aside ((W.alloc (.cells #[.bool b] 4)).heap[p]? = some (.cells cs 3 (0, 0))) := (heap_alloc_old _ _ (lt_heap HROW.out)).trans HROW.out
          go_upto_region 18 with (at_builtin; refine wpList_append_own _ rfl (.tmp 81) (.tmp 85) 22 rfl (w.heap.size + 1 + 1) 4 i0 (.bool false) 1 1 Try.underlying22 HI0.out.1 HI0.out.2.1 HI0.out.2.2.1 HI0.out.2.2.2 rfl (by decide) _ _ _ rfl (HB1.out.o1.alloc _) ⟨W.heap.size, 0, none⟩ 1 1 [.bool b] rfl rfl (cells1 _ _ _) oneB (by unfold maxLen; omega) (by omega) (by have := HB1.out.lt; simp; omega) ?_; intro v' w5 hown' hgrow _; obtain ⟨ao, cp, rfl⟩ := own_slice hown'; obtain ⟨g1, g2⟩ := HBa.out.stay0 hgrow; have HB2 : Aside (Bld w0 (w.heap.size + 1) (K + 1) K (wLost L T) P C (fun _ => 2) (wMv L R T) _ _ _) := HBa.out.addLost HBL.out hown' hgrow; have HR2 : Aside ((w5.setCell ⟨w.heap.size + 1, 0, none⟩ (.slice ao (K + 1) cp)).heap[p]? = some (.cells cs 3 (0, 0))) := HBa.out.keep1 hgrow HRa.out (by omega) (.slice ao (K + 1) cp))
          obtain ⟨W2, hW2⟩ : ∃ W2, W2 = w5.setCell ⟨w.heap.size + 1, 0, none⟩ (.slice ao (K + 1) cp) := ⟨_, rfl⟩
          rw [← hW2] at HB2 HR2 ⊢
          clear hW2 hown' hgrow g0 g1 g2 HB1 HROW
          have g0 := HB2.out.c1
          have HBa : Aside (Bld w0 (w.heap.size + 1) (K + 1) K (wLost L T) P C (fun _ => 2) (wMv L R T) (.slice ao (K + 1) cp) (.slice ao2 K cp2) (W2.alloc (.cells #[.slice (some ⟨p, 0, none⟩) 2 2] 26))) := HB2.out.below (by go_grown)
          have HRa : Aside ((W2.alloc (.cells #[.slice (some ⟨p, 0, none⟩) 2 2] 26)).heap[p]? = some (.cells cs 3 (0, 0))) := (heap_alloc_old _ _ (lt_heap HR2.out)).trans HR2.out
          clear HBL hb' hp
          go_wp2_with (at_builtin; refine wpList_append_own _ rfl (.tmp 89) (.tmp 91) 23 rfl (w.heap.size + 1 + 1) 26 i1 (.slice none 0 0) 1 24 Try.underlying23 HI1.out.1 HI1.out.2.1 HI1.out.2.2.1 HI1.out.2.2.2 rfl (by decide) _ _ _ rfl HBa.out.o2 ⟨W2.heap.size, 0, none⟩ 1 1 [.slice (some ⟨p, 0, none⟩) 2 2] rfl rfl (cells1 _ _ _) oneS (by unfold maxLen; omega) (by omega) (by have := HB2.out.lt; simp; omega) ?_; intro v' w6 hown' hgrow _; obtain ⟨ao3, cp3, rfl⟩ := own_slice hown'; obtain ⟨g1, g2⟩ := HBa.out.stay1 hgrow; have HB3 := HBa.out.addMoves HP.out HRa.out HCS.out hown' hgrow)
          go_roundg g
          case measure => omega
          case rel => exact ⟨c + 1, _, _, _, _, by simp, by omega, by rw [← Nat.add_assoc, ← HK.out]; exact HB3⟩
        · have hce' : ¬ (c : Int) < (T : Int) + 1 := by omega
          go_wp2_with fail
          go_roundg f
          case measure => omega
          case rel =>
            refine ⟨i + 1, P, C, v1, v2, by simp, by omega, ?_⟩
            have h := HB.out
            rw [show i * (T + 1) + c = (i + 1) * (T + 1) by rw [Nat.succ_mul]; omega] at h
            exact h
    · have hend' : ¬ (i : Int) < (L : Int) + 1 := by omega
      have hB : Bld w0 (w.heap.size + 1) N N (wLost L T) P C (fun _ => 2) (wMv L R T) v1 v2 wr := by rw [HN.out, ← show i = L + 1 by omega]; exact HB.out
      obtain ⟨lb, mb, lc, mc, rfl, rfl, hI⟩ := hB.fin hN1
      have d0 := hB.c0
      have d1 := hB.c1
      have hs0 := HS0.out
      have x0 : wr.cell? ⟨w.heap.size, 0, none⟩ = some (.slice none 0 0) := (hB.old.cell (p := ⟨w.heap.size, 0, none⟩) (show w.heap.size < w0.heap.size by omega)).trans HX0.out.1
      have x1 : wr.cell? ⟨w.heap.size, 1, none⟩ = some (.slice none 0 0) := (hB.old.cell (p := ⟨w.heap.size, 1, none⟩) (show w.heap.size < w0.heap.size by omega)).trans HX0.out.2.1
      have x2 : wr.frozen? ⟨w.heap.size, 0, none⟩ = false := (hB.old.frozen (p := ⟨w.heap.size, 0, none⟩) (show w.heap.size < w0.heap.size by omega)).trans HX0.out.2.2.1
      have x3 : wr.frozen? ⟨w.heap.size, 1, none⟩ = false := (hB.old.frozen (p := ⟨w.heap.size, 1, none⟩) (show w.heap.size < w0.heap.size by omega)).trans HX0.out.2.2.2
      have HI : Aside (∀ w' : World, (∀ k, w.heap.size + 1 < k → w'.heap[k]? = wr.heap[k]?) → BIs w' lb 0 mb 0 N (wLost L T) P (fun _ => 0) C (fun _ => 2) (wMv L R T)) := hI
      have HO : Aside (Below w0.heap.size w0 wr) := hB.old
      clear hI hs0
      go_wp2_with fail
      obtain ⟨WE, hWE⟩ : ∃ WE, WE = (wr.setCell ⟨w.heap.size, 0, none⟩ (.slice (some ⟨lb, 0, none⟩) N lc)).setCell ⟨w.heap.size, 1, none⟩ (.slice (some ⟨mb, 0, none⟩) N mc) := ⟨_, rfl⟩
      have e0 : WE.cell? ⟨w.heap.size, 0, none⟩ = some (.slice (some ⟨lb, 0, none⟩) N lc) := by rw [hWE, cell_setCell_ne (by simp), World.cell?_setCell_same _ _ _ x0]
      have e1 : WE.cell? ⟨w.heap.size, 1, none⟩ = some (.slice (some ⟨mb, 0, none⟩) N mc) := by rw [hWE]; exact World.cell?_setCell_same _ _ _ (by rw [cell_setCell_ne (by simp)]; exact x1)
      have e2 : ∀ k, w.heap.size + 1 < k → WE.heap[k]? = wr.heap[k]? := fun k hk => by rw [hWE, Below.heap_setCell _ _ _ _ (by simp; omega), Below.heap_setCell _ _ _ _ (by simp; omega)]
      have e3 : Below w.heap.size w WE := by rw [hWE]; exact ((bw0.trans (HO.out.mono (by have := HS0.out; omega))).setCell (Nat.le_refl _) _).setCell (Nat.le_refl _) _
      have HI2 := HI.out _ e2
      rw [← hWE]
      clear hWE e2 x0 x1 x2 x3 d0 d1 HI
      refine bodyPost_ret (v := .tuple #[.agg (bv lb 0 mb 0 N lc mc), .int .i64 0]) (by simp [results, Try.results18, go_sem, e0, e1]) rfl ?_
      rw [HN.out] at HI2 ⊢
      exact ⟨lb, mb, lc, mc, P, C, rfl, HI2, e3⟩
end Go.Proofs.Ytgohbjlfgiohiaa
