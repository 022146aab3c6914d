/- Kicks and sensors that are made of numbers: they are valid, and nothing but the ring's count turns. -/
import Derived.Test.YtngcfohmlppghaaRing
import Derived.Test.YtngcfohmlppghaaKb
namespace Go.Proofs.Ytngcfohmlppghaa
open Go.RowKit

/-- A kick was made. -/
def KickOut (w : World) (rb : Nat) (a : Option Addr) (len cap : Nat) (zs : List Int) (k : Nat) (e : Ending) (w' : World) : Prop :=
  ∃ r g : Int, 0 ≤ r ∧ r ≤ 9998 ∧ 0 ≤ g ∧ g ≤ 299 ∧ e = .returned (.agg #[.int .i64 r, .int .i64 g]) ∧ RKept rb w w' ∧ RingIs w' rb a len cap zs (k + 4)

set_option maxHeartbeats 400000 in
theorem kickOf_any (rb : Nat) (a : Option Addr) (len cap : Nat) (zs : List Int) (k : Nat) (hk : k ≤ 900000) (w : World) (h : RingIs w rb a len cap zs k) :
    Calls Try.prog 15 #[.pointer (some ⟨rb, 0, none⟩)] w (KickOut w rb a len cap zs k) := by
  have hlt := h.lt
  have r0 := h.kept ((Below.refl w.heap.size w).alloc (Nat.le_refl _) (.cells #[.int .i64 0, .int .i64 0] 29))
  go_enter Try.func15, Try.ntmps15
  go_wp2_with fail
  refine (next_any rb a len cap zs k 3 (by omega) (by omega) (by omega) _ r0).mono ?_
  rintro e w1 ⟨v1, a1, b1, rfl, k1, r1⟩
  go_wp2_with fail
  refine (next_any rb a len cap zs (k + 1) 5000 (by omega) (by omega) (by omega) _ r1).mono ?_
  rintro e w2 ⟨v2, a2, b2, rfl, k2, r2⟩
  obtain ⟨m0, m1⟩ := mul_bd a1 (show v1 ≤ 2 by omega) a2 (show v2 ≤ 4999 by omega)
  go_wp2_with fail
  refine (next_any rb a len cap zs (k + 2) 2 (by omega) (by omega) (by omega) _ r2).mono ?_
  rintro e w3 ⟨v3, a3, b3, rfl, k3, r3⟩
  go_wp2_with fail
  refine (next_any rb a len cap zs (k + 3) 300 (by omega) (by omega) (by omega) _ r3).mono ?_
  rintro e w4 ⟨v4, a4, b4, rfl, k4, r4⟩
  obtain ⟨m2, m3⟩ := mul_bd a3 (show v3 ≤ 1 by omega) a4 (show v4 ≤ 299 by omega)
  have kk : RKept rb (w.alloc (.cells #[.int .i64 0, .int .i64 0] 29)) w4 := ((k1.trans k2).trans k3).trans k4
  have hs : w.heap.size < w4.heap.size := by have := kk.size; simp at this; omega
  have c0 : w4.cell? ⟨w.heap.size, 0, none⟩ = some (.int .i64 0) := (kk.cell (p := ⟨_, _, _⟩) (by simp) (by simp; omega)).trans (by simp [go_sem])
  have c1 : w4.cell? ⟨w.heap.size, 1, none⟩ = some (.int .i64 0) := (kk.cell (p := ⟨_, _, _⟩) (by simp) (by simp; omega)).trans (by simp [go_sem])
  have f0 : w4.frozen? ⟨w.heap.size, 0, none⟩ = false := (kk.frozen (p := ⟨_, _, _⟩) (by simp) (by simp; omega)).trans (by simp [go_sem])
  have f1 : w4.frozen? ⟨w.heap.size, 1, none⟩ = false := (kk.frozen (p := ⟨_, _, _⟩) (by simp) (by simp; omega)).trans (by simp [go_sem])
  have hk1 : RKept rb w w4 := ((RKept.refl rb w).alloc _).trans kk
  clear k1 k2 k3 k4 r0 r1 r2 r3 kk
  go_wp2
  have far : ∀ x, a = some x → 0 < cap → x.block ≠ w.heap.size := fun x hx hc => by have := (h.ne x hx hc).2; omega
  refine bodyPost_ret (v := .agg #[.int .i64 (v1 * v2), .int .i64 (v3 * v4)]) (by simp [results, Try.results15, go_sem, c0, c1]) rfl ⟨v1 * v2, v3 * v4, m0, by omega, m2, by omega, rfl, ?_, ?_⟩
  · exact (hk1.setCell (.inr (Nat.le_refl _)) _).setCell (.inr (Nat.le_refl _)) _
  · exact (r4.far (by simp; omega) far _).far (by simp; omega) far _
end Go.Proofs.Ytngcfohmlppghaa
