/- The contracts of the latest alarm of a sensor for a kick, by the program. -/
import Derived.Test.YtngcfohmlppghaaKb
import Derived.Deep.LoopGhost
import Derived.Deep.RegionHeld3
namespace Go.Proofs.Ytngcfohmlppghaa
open Go.RowKit

/-- A sample at the tick t is high for certain. -/
def satV (c n s m r g t : Int) : Bool := !decide (sayV c r g t - n * s < m)
/-- The number of the first high sample of a phase, from the number a on. -/
def firstN (q : Int → Bool) (p ph : Int) : Nat → Int → Option Int
  | 0, _ => none
  | f + 1, a => if ph + a * p ≤ 10000 then (if q (ph + a * p) then some a else firstN q p ph f (a + 1)) else none
/-- The tick of the alarm of a phase. -/
def tickV (p d l k ph a : Int) : Int := ph + (a + k * (l + 1) - 1) * p + d
/-- The latest alarm of the phases from ph on. -/
def lateF (q : Int → Bool) (p d l k : Int) : Nat → Int → Int × Int × Int → Option (Int × Int × Int)
  | 0, _, x => some x
  | f + 1, ph, x => match firstN q p ph 10001 0 with
    | none => none
    | some a => lateF q p d l k f (ph + 1) (if x.2.2 < tickV p d l k ph a then (ph, a, tickV p d l k ph a) else x)
def latestO (c p d n s l m k r g : Int) : Option (Int × Int × Int) := lateF (satV c n s m r g) p d l k p.toNat 0 (0, 0, -1)
/-- What latest returns. -/
def latestV (c p d n s l m k r g : Int) : (Int × Int × Int) × Bool :=
  match latestO c p d n s l m k r g with
  | none => ((0, 0, 0), false)
  | some x => (x, decide (x.2.2 ≤ 10000))
theorem bcell {W w1 : World} {B : Nat} (hb : Below B W w1) : (∀ b o, b < B → w1.cell? ⟨b, o, none⟩ = W.cell? ⟨b, o, none⟩) ∧ (∀ b o, b < B → w1.frozen? ⟨b, o, none⟩ = W.frozen? ⟨b, o, none⟩) :=
  ⟨fun b o h => hb.cell (p := ⟨b, o, none⟩) h, fun b o h => hb.frozen (p := ⟨b, o, none⟩) h⟩

/-- The bounds of a valid sensor and a valid kick. -/
structure Fit (c p d n s l m k r g : Int) : Prop where
  hp : 1 ≤ p ∧ p ≤ 60
  hd : 0 ≤ d ∧ d ≤ 600
  hn : 0 ≤ n ∧ n ≤ 15
  hs : 1 ≤ s ∧ s ≤ 1048576
  hl : 0 ≤ l ∧ l ≤ 5
  hm : 1 ≤ m ∧ m ≤ 1099511627776
  hk : 1 ≤ k ∧ k ≤ 8
  hr : 0 ≤ r ∧ r ≤ 16777216
  hg : 0 ≤ g ∧ g ≤ 4096

set_option maxRecDepth 100000 in
set_option maxHeartbeats 1000000 in
theorem latest_any (c p d n s l m k r g : Int) (hf : Fit c p d n s l m k r g) (w : World) :
    Calls Try.prog 65 #[.agg (sv c p d n s l m k), .agg #[.int .i64 r, .int .i64 g]] w fun e w' =>
      e = .returned (.tuple #[.agg #[.int .i64 (latestV c p d n s l m k r g).1.1, .int .i64 (latestV c p d n s l m k r g).1.2.1, .int .i64 (latestV c p d n s l m k r g).1.2.2], .bool (latestV c p d n s l m k r g).2]) ∧ Below w.heap.size w w' := by
  obtain ⟨⟨p0, p1⟩, ⟨d0, d1⟩, ⟨n0, n1⟩, ⟨s0, s1⟩, ⟨l0, l1⟩, ⟨m0, m1⟩, ⟨k0, k1⟩, hr, hg⟩ := hf
  obtain ⟨P, rfl⟩ : ∃ P : Nat, p = (P : Int) := ⟨p.toNat, by omega⟩
  go_enter Try.func65, Try.ntmps65
  go_wp2
  go_step3
  go_wp2_with (go_at_call 78; refine (channel_any _ _ _ _ _ _ _ _ _ _ _).mono ?_; rintro e w1 ⟨rfl, hb1⟩)
  obtain ⟨hc1, hz1⟩ := bcell hb1
  have hsz : w.heap.size + 3 ≤ w1.heap.size := by have := hb1.size; simp at this; omega
  have q1 : w1.cell? ⟨w.heap.size, 1, none⟩ = some (.int .i64 (P : Int)) := (hc1 _ _ (by simp; omega)).trans (by simp [go_sem, World.cell?_alloc_past])
  have q2 : w1.cell? ⟨w.heap.size, 2, none⟩ = some (.int .i64 d) := (hc1 _ _ (by simp; omega)).trans (by simp [go_sem, World.cell?_alloc_past])
  have q3 : w1.cell? ⟨w.heap.size, 3, none⟩ = some (.int .i64 n) := (hc1 _ _ (by simp; omega)).trans (by simp [go_sem, World.cell?_alloc_past])
  have q4 : w1.cell? ⟨w.heap.size, 4, none⟩ = some (.int .i64 s) := (hc1 _ _ (by simp; omega)).trans (by simp [go_sem, World.cell?_alloc_past])
  have q5 : w1.cell? ⟨w.heap.size, 5, none⟩ = some (.int .i64 l) := (hc1 _ _ (by simp; omega)).trans (by simp [go_sem, World.cell?_alloc_past])
  have q6 : w1.cell? ⟨w.heap.size, 6, none⟩ = some (.int .i64 m) := (hc1 _ _ (by simp; omega)).trans (by simp [go_sem, World.cell?_alloc_past])
  have q7 : w1.cell? ⟨w.heap.size, 7, none⟩ = some (.int .i64 k) := (hc1 _ _ (by simp; omega)).trans (by simp [go_sem, World.cell?_alloc_past])
  have hlt : w.heap.size < w1.heap.size := by omega
  have hlt2 : w.heap.size + 1 + 1 < w1.heap.size := by omega
  have u0 : (w1.cell? ⟨w.heap.size + 1 + 1, 0, none⟩).isSome = true := by rw [hc1 _ _ (by simp)]; simp [go_sem]
  have u1 : (w1.cell? ⟨w.heap.size + 1 + 1, 1, none⟩).isSome = true := by rw [hc1 _ _ (by simp)]; simp [go_sem]
  have u2 : (w1.cell? ⟨w.heap.size + 1 + 1, 2, none⟩).isSome = true := by rw [hc1 _ _ (by simp)]; simp [go_sem]
  have f0 : ∀ j, w1.frozen? ⟨w.heap.size + 1 + 1, j, none⟩ = false := fun j => by rw [hz1 _ _ (by simp)]; simp [go_sem]
  have hbw : Below w.heap.size w w1 := ((((Below.refl _ _).alloc (Nat.le_refl _) _).alloc (by simp) _).alloc (by simp; omega) _).trans (hb1.mono (by simp; omega))
  clear hc1 hz1 hb1
  go_step3
  go_wp2_with fail
  go_loopg [17] P (fun gg v17 wr => ∃ (ph : Nat) (x1 x2 x3 : Int), ph + gg = P ∧ v17 = .int .i64 ph ∧ Below w1.heap.size w1 wr ∧ w1.heap.size < wr.heap.size ∧
    wr.cell? ⟨w1.heap.size, 0, none⟩ = some (.int .i64 x1) ∧ wr.cell? ⟨w1.heap.size, 1, none⟩ = some (.int .i64 x2) ∧ wr.cell? ⟨w1.heap.size, 2, none⟩ = some (.int .i64 x3) ∧ (∀ j, wr.frozen? ⟨w1.heap.size, j, none⟩ = false) ∧
    Aside (lateF (satV c n s m r g) P d l k gg ph (x1, x2, x3) = latestO c P d n s l m k r g))
  case atStart =>
    refine ⟨0, 0, 0, -1, by omega, rfl, (Below.refl _ _).alloc (Nat.le_refl _) _, by simp, by simp [go_sem], by simp [go_sem], by simp [go_sem], fun j => by simp [go_sem], ?_⟩
    show _ = _
    unfold latestO
    rw [Int.toNat_natCast]
    rfl
  case round =>
    obtain ⟨ph, x1, x2, x3, hph, rfl, hbx, hgz, y0, y1, y2, yf, HL⟩ := hrel
    obtain ⟨a0, ra0⟩ := Option.isSome_iff_exists.1 u0
    obtain ⟨a1, ra1⟩ := Option.isSome_iff_exists.1 u1
    obtain ⟨a2, ra2⟩ := Option.isSome_iff_exists.1 u2
    have r0 : wr.cell? ⟨w.heap.size + 1 + 1, 0, none⟩ = some a0 := (hbx.cell (p := ⟨_, _, _⟩) hlt2).trans ra0
    have r1 : wr.cell? ⟨w.heap.size + 1 + 1, 1, none⟩ = some a1 := (hbx.cell (p := ⟨_, _, _⟩) hlt2).trans ra1
    have r2 : wr.cell? ⟨w.heap.size + 1 + 1, 2, none⟩ = some a2 := (hbx.cell (p := ⟨_, _, _⟩) hlt2).trans ra2
    have rf : ∀ j, wr.frozen? ⟨w.heap.size + 1 + 1, j, none⟩ = false := fun j => (hbx.frozen (p := ⟨_, _, _⟩) hlt2).trans (f0 j)
    clear u0 u1 u2
    cases gk with
    | zero =>
      have hz : ¬ ((ph : Int) < (P : Int)) := by omega
      have HL' : Aside (latestV c P d n s l m k r g = ((x1, x2, x3), decide (x3 ≤ 10000))) := by
        show _ = _
        have := HL.out
        unfold latestV
        rw [← this]
        rfl
      clear HL
      go_wp2_with fail
      go_region
      go_wp2
      try rw [Exit.noGoto_ret]
      refine bodyPost_ret (v := .tuple #[.agg #[.int .i64 x1, .int .i64 x2, .int .i64 x3], .bool (decide (x3 ≤ 10000))]) (by simp [results, Try.results65, go_sem, r0, r1, r2]) rfl ⟨?_, ?_⟩
      · rw [HL'.out]
      · exact ((((hbw.trans (hbx.mono (by omega))).setCell (by simp; omega) _).setCell (by simp; omega) _).setCell (by simp; omega) _).drew
    | succ gg =>
      have hz : (ph : Int) < (P : Int) := by omega
      have hph0 : (0 : Int) ≤ (ph : Int) := by omega
      obtain ⟨ns0, ns1⟩ := mul_bd n0 n1 (show (0 : Int) ≤ s by omega) s1
      go_wp2_with fail
      go_loopg [9] 10001 (fun g2 v9 wy => ∃ (a : Nat), a + g2 = 10001 ∧ v9 = .int .i64 a ∧ Below w1.heap.size w1 wy ∧ w1.heap.size < wy.heap.size ∧
        wy.cell? ⟨w1.heap.size, 0, none⟩ = some (.int .i64 x1) ∧ wy.cell? ⟨w1.heap.size, 1, none⟩ = some (.int .i64 x2) ∧ wy.cell? ⟨w1.heap.size, 2, none⟩ = some (.int .i64 x3) ∧ (∀ j, wy.frozen? ⟨w1.heap.size, j, none⟩ = false) ∧
        Aside (firstN (satV c n s m r g) P ph g2 a = firstN (satV c n s m r g) P ph 10001 0))
      case atStart => exact ⟨0, by omega, rfl, hbx, hgz, y0, y1, y2, yf, rfl⟩
      case round =>
        clear hbx hgz y0 y1 y2 yf r0 r1 r2 rf
        obtain ⟨a, hag, rfl, hbx, hgz, y0, y1, y2, yf, HF⟩ := hrel
        have t1 : wr.cell? ⟨w.heap.size, 1, none⟩ = some (.int .i64 (P : Int)) := (hbx.cell (p := ⟨_, _, _⟩) hlt).trans q1
        have t2 : wr.cell? ⟨w.heap.size, 2, none⟩ = some (.int .i64 d) := (hbx.cell (p := ⟨_, _, _⟩) hlt).trans q2
        have t3 : wr.cell? ⟨w.heap.size, 3, none⟩ = some (.int .i64 n) := (hbx.cell (p := ⟨_, _, _⟩) hlt).trans q3
        have t4 : wr.cell? ⟨w.heap.size, 4, none⟩ = some (.int .i64 s) := (hbx.cell (p := ⟨_, _, _⟩) hlt).trans q4
        have t5 : wr.cell? ⟨w.heap.size, 5, none⟩ = some (.int .i64 l) := (hbx.cell (p := ⟨_, _, _⟩) hlt).trans q5
        have t6 : wr.cell? ⟨w.heap.size, 6, none⟩ = some (.int .i64 m) := (hbx.cell (p := ⟨_, _, _⟩) hlt).trans q6
        have t7 : wr.cell? ⟨w.heap.size, 7, none⟩ = some (.int .i64 k) := (hbx.cell (p := ⟨_, _, _⟩) hlt).trans q7
        have r0 : wr.cell? ⟨w.heap.size + 1 + 1, 0, none⟩ = some a0 := (hbx.cell (p := ⟨_, _, _⟩) hlt2).trans ra0
        have r1 : wr.cell? ⟨w.heap.size + 1 + 1, 1, none⟩ = some a1 := (hbx.cell (p := ⟨_, _, _⟩) hlt2).trans ra1
        have r2 : wr.cell? ⟨w.heap.size + 1 + 1, 2, none⟩ = some a2 := (hbx.cell (p := ⟨_, _, _⟩) hlt2).trans ra2
        have rf : ∀ j, wr.frozen? ⟨w.heap.size + 1 + 1, j, none⟩ = false := fun j => (hbx.frozen (p := ⟨_, _, _⟩) hlt2).trans (f0 j)
        clear ra0 ra1 ra2 f0 q1 q2 q3 q4 q5 q6 q7
        obtain ⟨e0, e1⟩ := mul_bd (show (0 : Int) ≤ (a : Int) by omega) (show (a : Int) ≤ 10001 by omega) (show (0 : Int) ≤ (P : Int) by omega) p1
        have hltx : w.heap.size < wr.heap.size := by omega
        by_cases hcd : (ph : Int) + (a : Int) * (P : Int) ≤ 10000
        · have e2 : (a : Int) ≤ (a : Int) * (P : Int) := by
            have := Int.mul_le_mul_of_nonneg_left (show (1 : Int) ≤ (P : Int) by omega) (show (0 : Int) ≤ (a : Int) by omega)
            omega
          obtain ⟨v0, v1⟩ := say_bd (c := c) hr hg (show (ph : Int) + (a : Int) * (P : Int) ≤ 20000 by omega)
          cases gk with
          | zero => omega
          | succ gk =>
            have hcf := chF_enter c
            by_cases hq : sayV c r g ((ph : Int) + (a : Int) * (P : Int)) - n * s < m
            · have HF' : Aside (firstN (satV c n s m r g) P ph gk ((a + 1 : Nat) : Int) = firstN (satV c n s m r g) P ph 10001 0) := by
                show _ = _
                rw [← HF.out]
                simp [firstN, hcd, satV, hq]
              clear HF
              go_wp2_with fail
              have i1 : IntKind.i64.wrap ((a : Int) * (P : Int)) = (a : Int) * (P : Int) := IntWalk.i64_in _ (by omega)
              have i2 : IntKind.i64.wrap ((ph : Int) + (a : Int) * (P : Int)) = (ph : Int) + (a : Int) * (P : Int) := IntWalk.i64_in _ (by omega)
              have i3 : IntKind.i64.wrap (n * s) = n * s := IntWalk.i64_in _ (by omega)
              have i4 : IntKind.i64.wrap (sayV c r g ((ph : Int) + (a : Int) * (P : Int)) - n * s) = sayV c r g ((ph : Int) + (a : Int) * (P : Int)) - n * s := IntWalk.i64_in _ (by omega)
              go_region_held3 (fun w' => w'.cell? ⟨w.heap.size, 1, none⟩ = some (.int .i64 (P : Int)) ∧ w'.cell? ⟨w.heap.size, 3, none⟩ = some (.int .i64 n) ∧ w'.cell? ⟨w.heap.size, 4, none⟩ = some (.int .i64 s) ∧ w'.cell? ⟨w.heap.size, 6, none⟩ = some (.int .i64 m)) (first | (simp [go_sem, t1, t3, t4, t6]; done) | (simp [*, go_sem, World.cell?_alloc_past]; done))
                ((refine (says_any c r g _ hr hg (by omega) _).mono ?_; rintro e w' ⟨rfl, rfl⟩))
              clear i1 i2 i3 i4 hcf
              go_wp2
              go_roundg gk
              case measure => omega
              case rel =>
                refine ⟨a + 1, by omega, by first | rfl | go_num, ?_, ?_, ?_, ?_, ?_, ?_, HF'⟩
                · go_grown
                · simp; omega
                · simp [go_sem, World.cell?_alloc_past, hgz, y0]
                · simp [go_sem, World.cell?_alloc_past, hgz, y1]
                · simp [go_sem, World.cell?_alloc_past, hgz, y2]
                · intro j; simp [go_sem, hgz, yf]
            · have HF' : Aside (firstN (satV c n s m r g) P ph 10001 0 = some (a : Int)) := by
                show _ = _
                rw [← HF.out]
                simp [firstN, hcd, satV, hq]
              clear HF
              have k2 : (1 : Int) * 1 ≤ k * (l + 1) := Int.mul_le_mul k0 (by omega) (by omega) (by omega)
              obtain ⟨k3, k4⟩ := mul_bd (show (0 : Int) ≤ k by omega) k1 (show (0 : Int) ≤ l + 1 by omega) (show l + 1 ≤ 6 by omega)
              obtain ⟨k5, k6⟩ := mul_bd (show (0 : Int) ≤ (a : Int) + k * (l + 1) - 1 by omega) (show (a : Int) + k * (l + 1) - 1 ≤ 10047 by omega) (show (0 : Int) ≤ (P : Int) by omega) p1
              by_cases hT : x3 < (ph : Int) + ((a : Int) + k * (l + 1) - 1) * (P : Int) + d
              · go_wp2_with fail
                have i1 : IntKind.i64.wrap ((a : Int) * (P : Int)) = (a : Int) * (P : Int) := IntWalk.i64_in _ (by omega)
                have i2 : IntKind.i64.wrap ((ph : Int) + (a : Int) * (P : Int)) = (ph : Int) + (a : Int) * (P : Int) := IntWalk.i64_in _ (by omega)
                have i3 : IntKind.i64.wrap (n * s) = n * s := IntWalk.i64_in _ (by omega)
                have i4 : IntKind.i64.wrap (sayV c r g ((ph : Int) + (a : Int) * (P : Int)) - n * s) = sayV c r g ((ph : Int) + (a : Int) * (P : Int)) - n * s := IntWalk.i64_in _ (by omega)
                go_region_held3 (fun w' => w'.cell? ⟨w.heap.size, 1, none⟩ = some (.int .i64 (P : Int)) ∧ w'.cell? ⟨w.heap.size, 3, none⟩ = some (.int .i64 n) ∧ w'.cell? ⟨w.heap.size, 4, none⟩ = some (.int .i64 s) ∧ w'.cell? ⟨w.heap.size, 6, none⟩ = some (.int .i64 m)) (first | (simp [go_sem, t1, t3, t4, t6]; done) | (simp [*, go_sem, World.cell?_alloc_past]; done))
                  ((refine (says_any c r g _ hr hg (by omega) _).mono ?_; rintro e w' ⟨rfl, rfl⟩))
                clear i1 i2 i3 i4 hcf
                go_wp2
                go_roundg gg
                case measure => omega
                case rel =>
                  refine ⟨ph + 1, ph, a, tickV P d l k ph a, by omega, by first | rfl | go_num, ?_, ?_, ?_, ?_, ?_, ?_, ?_⟩
                  · go_grown
                  · simp; omega
                  · simp [go_sem, World.cell?_alloc_past, hgz, y0]
                  · simp [go_sem, World.cell?_alloc_past, hgz, y1]
                  · simp [go_sem, World.cell?_alloc_past, hgz, y2, tickV]
                  · intro j; simp [go_sem, hgz, yf]
                  · show _ = _
                    rw [← HL.out]
                    simp only [lateF, HF'.out]
                    rw [if_pos (by exact hT)]
                    rfl
              · go_wp2_with fail
                have i1 : IntKind.i64.wrap ((a : Int) * (P : Int)) = (a : Int) * (P : Int) := IntWalk.i64_in _ (by omega)
                have i2 : IntKind.i64.wrap ((ph : Int) + (a : Int) * (P : Int)) = (ph : Int) + (a : Int) * (P : Int) := IntWalk.i64_in _ (by omega)
                have i3 : IntKind.i64.wrap (n * s) = n * s := IntWalk.i64_in _ (by omega)
                have i4 : IntKind.i64.wrap (sayV c r g ((ph : Int) + (a : Int) * (P : Int)) - n * s) = sayV c r g ((ph : Int) + (a : Int) * (P : Int)) - n * s := IntWalk.i64_in _ (by omega)
                go_region_held3 (fun w' => w'.cell? ⟨w.heap.size, 1, none⟩ = some (.int .i64 (P : Int)) ∧ w'.cell? ⟨w.heap.size, 3, none⟩ = some (.int .i64 n) ∧ w'.cell? ⟨w.heap.size, 4, none⟩ = some (.int .i64 s) ∧ w'.cell? ⟨w.heap.size, 6, none⟩ = some (.int .i64 m)) (first | (simp [go_sem, t1, t3, t4, t6]; done) | (simp [*, go_sem, World.cell?_alloc_past]; done))
                  ((refine (says_any c r g _ hr hg (by omega) _).mono ?_; rintro e w' ⟨rfl, rfl⟩))
                clear i1 i2 i3 i4 hcf
                go_wp2
                go_roundg gg
                case measure => omega
                case rel =>
                  refine ⟨ph + 1, x1, x2, x3, by omega, by first | rfl | go_num, ?_, ?_, ?_, ?_, ?_, ?_, ?_⟩
                  · go_grown
                  · simp; omega
                  · simp [go_sem, World.cell?_alloc_past, hgz, y0]
                  · simp [go_sem, World.cell?_alloc_past, hgz, y1]
                  · simp [go_sem, World.cell?_alloc_past, hgz, y2]
                  · intro j; simp [go_sem, hgz, yf]
                  · show _ = _
                    rw [← HL.out]
                    simp only [lateF, HF'.out]
                    rw [if_neg (by exact Int.not_lt.2 hT)]
                    rfl
        · -- no sample of this phase is high: no alarm
          have hnone : firstN (satV c n s m r g) P ph 10001 0 = none := by
            rw [← HF.out]
            cases gk <;> simp [firstN, hcd]
          have HV : Aside (latestV c P d n s l m k r g = ((0, 0, 0), false)) := by
            show _ = _
            have := HL.out
            simp only [lateF, hnone] at this
            unfold latestV
            rw [← this]
          clear HL HF hnone
          go_wp2
          try rw [Exit.noGoto_ret]
          refine bodyPost_ret (v := .tuple #[.agg #[.int .i64 0, .int .i64 0, .int .i64 0], .bool false]) (by simp [results, Try.results65, go_sem, r0, r1, r2]) rfl ⟨?_, ?_⟩
          · rw [HV.out]
          · exact ((((hbw.trans (hbx.mono (by omega))).setCell (by simp; omega) _).setCell (by simp; omega) _).setCell (by simp; omega) _)
end Go.Proofs.Ytngcfohmlppghaa
