/- The ring of numbers that the statements draw their inputs from: each number that it hands out lies from 0 to n - 1, and nothing but the ring's own count turns. -/
import Derived.Test.YtngcfohmlppghaaKr
import Derived.BigQuiet
import Derived.Deep.QuietTactic
import Derived.Deep.LoopGhost
import Derived.Handy
namespace Go.Proofs.Ytngcfohmlppghaa
open Go.RowKit

/-- Everything that was there is as it was, but for one block. -/
structure RKept (rb : Nat) (w w' : World) : Prop where
  os : w'.os = w.os
  tape : w'.tape = w.tape
  output : w'.output = w.output
  size : w.heap.size ≤ w'.heap.size
  block : ∀ k, k < w.heap.size → k ≠ rb → w'.heap[k]? = w.heap[k]?
theorem RKept.refl (rb : Nat) (w : World) : RKept rb w w := ⟨rfl, rfl, rfl, Nat.le_refl _, fun _ _ _ => rfl⟩
theorem RKept.trans {rb : Nat} {a b c : World} (h : RKept rb a b) (k : RKept rb b c) : RKept rb a c :=
  ⟨k.os.trans h.os, k.tape.trans h.tape, k.output.trans h.output, Nat.le_trans h.size k.size, fun i hi hne => (k.block i (Nat.lt_of_lt_of_le hi h.size) hne).trans (h.block i hi hne)⟩
theorem RKept.of_below {rb : Nat} {w w' : World} (h : Below w.heap.size w w') : RKept rb w w' := ⟨h.os, h.tape, h.output, h.size, fun k hk _ => h.block k hk⟩
theorem RKept.below {rb B : Nat} {w w' : World} (h : RKept rb w w') (hB : B ≤ rb) (hs : B ≤ w.heap.size) : Below B w w' :=
  ⟨h.os, h.tape, h.output, h.size, fun k hk => h.block k (by omega) (by omega)⟩
theorem RKept.cell {rb : Nat} {w w' : World} (h : RKept rb w w') {p : Addr} (h1 : p.block < w.heap.size) (h2 : p.block ≠ rb) : w'.cell? p = w.cell? p := World.cell?_of_block (w := w) (h.block p.block h1 h2)
theorem RKept.frozen {rb : Nat} {w w' : World} (h : RKept rb w w') {p : Addr} (h1 : p.block < w.heap.size) (h2 : p.block ≠ rb) : w'.frozen? p = w.frozen? p := World.frozen?_of_block (w := w) (h.block p.block h1 h2)
theorem RKept.alloc {rb : Nat} {a w : World} (h : RKept rb a w) (o : Obj) : RKept rb a (w.alloc o) :=
  h.trans ⟨rfl, rfl, rfl, by simp, fun k hk _ => Below.heap_alloc _ _ _ hk⟩
theorem RKept.drew {rb : Nat} {a w : World} (h : RKept rb a w) : RKept rb a w.drew := ⟨h.os, h.tape, h.output, h.size, h.block⟩
theorem RKept.drewN {rb : Nat} {a w : World} (h : RKept rb a w) (n : Nat) : RKept rb a (w.drewN n) := ⟨h.os, h.tape, h.output, h.size, h.block⟩
theorem RKept.setCell {rb : Nat} {a w : World} (h : RKept rb a w) {p : Addr} (hp : p.block = rb ∨ a.heap.size ≤ p.block) (v : Value) : RKept rb a (w.setCell p v) := by
  refine ⟨h.os, h.tape, h.output, by simpa using h.size, fun k hk hne => ?_⟩
  rw [Below.heap_setCell _ _ _ _ (by omega)]
  exact h.block k hk hne

theorem lt_of_cell {w : World} {p : Addr} {v : Value} (h : w.cell? p = some v) : p.block < w.heap.size := by
  by_cases hb : p.block < w.heap.size
  · exact hb
  · have : w.heap[p.block]? = none := Array.getElem?_eq_none (by omega)
    unfold World.cell? at h
    simp [this] at h
/-- A ring lies in a block, has handed out so many numbers, and reads a slice. -/
structure RingIs (w : World) (rb : Nat) (a : Option Addr) (len cap : Nat) (zs : List Int) (n : Nat) : Prop where
  c0 : w.cell? ⟨rb, 0, none⟩ = some (.slice a len cap)
  c1 : w.cell? ⟨rb, 1, none⟩ = some (.int .i64 (n : Int))
  fz : w.frozen? ⟨rb, 1, none⟩ = false
  row : IsRow w a len cap zs
  ne : ∀ x, a = some x → 0 < cap → x.block ≠ rb ∧ x.block < w.heap.size
  lt : rb < w.heap.size
theorem RingIs.kept {w w' : World} {rb : Nat} {a : Option Addr} {len cap : Nat} {zs : List Int} {n : Nat} (h : RingIs w rb a len cap zs n) (hb : Below w.heap.size w w') : RingIs w' rb a len cap zs n := by
  refine ⟨(hb.cell (p := ⟨_, _, _⟩) h.lt).trans h.c0, (hb.cell (p := ⟨_, _, _⟩) h.lt).trans h.c1, (hb.frozen (p := ⟨_, _, _⟩) h.lt).trans h.fz, ?_, fun x hx hc => ⟨(h.ne x hx hc).1, Nat.lt_of_lt_of_le (h.ne x hx hc).2 hb.size⟩, Nat.lt_of_lt_of_le h.lt hb.size⟩
  rcases h.row with h0 | ⟨x, hx, h1, h2, h3, h4, h5⟩
  · exact .inl h0
  · exact .inr ⟨x, hx, h1, h2, h3, fun i hi => (hb.cell (p := x.add i) (by rw [Addr.add]; split <;> exact (h.ne x hx (by omega)).2)).trans (h4 i hi), h5⟩

/-- A number from 0 to n - 1 was handed out: the ring's count is one more. -/
def Out (w : World) (rb : Nat) (a : Option Addr) (len cap : Nat) (zs : List Int) (k : Nat) (n : Int) (e : Ending) (w' : World) : Prop :=
  ∃ v : Int, 0 ≤ v ∧ v < n ∧ e = .returned (.int .i64 v) ∧ RKept rb w w' ∧ RingIs w' rb a len cap zs (k + 1)

theorem ret_i {k : IntKind} {a b : Int} (h : a = b) : Ending.returned (.int k a) = .returned (.int k b) := by rw [h]
theorem RingIs.step {w : World} {rb : Nat} {a : Option Addr} {len cap : Nat} {zs : List Int} {n : Nat} (h : RingIs w rb a len cap zs n) : RingIs (w.setCell ⟨rb, 1, none⟩ (.int .i64 ((n : Int) + 1))) rb a len cap zs (n + 1) := by
  refine ⟨?_, ?_, by simpa using h.fz, ?_, fun x hx hc => by simpa using h.ne x hx hc, by simpa using h.lt⟩
  · rw [World.cell?_setCell_other (h := by simp)]
    exact h.c0
  · rw [World.cell?_setCell_same _ _ _ h.c1]
    rfl
  · rcases h.row with h0 | ⟨x, hx, h1, h2, h3, h4, h5⟩
    · exact .inl h0
    · refine .inr ⟨x, hx, h1, h2, h3, fun i hi => ?_, h5⟩
      rw [World.cell?_setCell_other (h := fun e => (h.ne x hx (by omega)).1 (by
        have := congrArg Addr.block e
        rw [Addr.add] at this
        split at this <;> exact this.symm))]
      exact h4 i hi
theorem RingIs.far {w : World} {rb : Nat} {a : Option Addr} {len cap : Nat} {zs : List Int} {n : Nat} (h : RingIs w rb a len cap zs n) {p : Addr} (h1 : p.block ≠ rb) (h2 : ∀ x, a = some x → 0 < cap → x.block ≠ p.block) (v : Value) : RingIs (w.setCell p v) rb a len cap zs n := by
  refine ⟨?_, ?_, by simpa using h.fz, ?_, fun x hx hc => by simpa using h.ne x hx hc, by simpa using h.lt⟩
  · rw [World.cell?_setCell_other (h := fun e => h1 (by rw [e]))]
    exact h.c0
  · rw [World.cell?_setCell_other (h := fun e => h1 (by rw [e]))]
    exact h.c1
  · rcases h.row with h0 | ⟨x, hx, g1, g2, h3, h4, h5⟩
    · exact .inl h0
    · refine .inr ⟨x, hx, g1, g2, h3, fun i hi => ?_, h5⟩
      rw [World.cell?_setCell_other (h := fun e => h2 x hx (by omega) (by
        have := congrArg Addr.block e
        rw [Addr.add] at this
        split at this <;> exact this.symm))]
      exact h4 i hi
theorem RingIs.drewN {w : World} {rb : Nat} {a : Option Addr} {len cap : Nat} {zs : List Int} {n : Nat} (h : RingIs w rb a len cap zs n) (m : Nat) : RingIs (w.drewN m) rb a len cap zs n := ⟨h.c0, h.c1, h.fz, h.row, h.ne, h.lt⟩

set_option maxHeartbeats 400000 in
theorem mod_any (n m : Int) (h0 : -9223372036854775808 ≤ n) (h1 : n ≤ 9223372036854775807) (m0 : 1 ≤ m) (m1 : m ≤ 4611686018427387904) (w : World) :
    Calls Try.prog 25 #[.int .i64 n, .int .i64 m] w fun e w' => e = .returned (.int .i64 (n % m)) ∧ w' = w := by
  have hm : ¬ m = 0 := by omega
  by_cases h : 0 ≤ n
  · have e0 : n.tmod m = n % m := Int.tmod_eq_emod_of_nonneg h
    have e1 : 0 ≤ n % m := Int.emod_nonneg _ hm
    have e2 : n % m < m := Int.emod_lt_of_pos _ (by omega)
    go_enter Try.func25, Try.ntmps25
    go_wp2
    go_ret
    exact ⟨rfl, rfl⟩
  · obtain ⟨r, hr⟩ : ∃ r : Int, r = (-n) % m := ⟨_, rfl⟩
    have r0 : 0 ≤ r := by rw [hr]; exact Int.emod_nonneg _ hm
    have r1 : r < m := by rw [hr]; exact Int.emod_lt_of_pos _ (by omega)
    have e0 : n.tmod m = -r := by
      rw [show n = -(-n) by omega, Int.neg_tmod, Int.tmod_eq_emod_of_nonneg (by omega), ← hr]
    have e1 : n % m = (m - r) % m := by
      have := Int.emod_add_mul_ediv (-n) m
      rw [← hr] at this
      have e : n = (m - r) + m * (-((-n) / m) - 1) := by
        rw [Int.mul_sub, Int.mul_neg]
        omega
      conv => lhs; rw [e]
      exact Int.add_mul_emod_self_left _ _ _
    have hn : n < 0 := by omega
    by_cases hz : r = 0
    · have e2 : n % m = 0 := by rw [e1, hz]; simp
      rw [hz] at e0
      rw [e2]
      clear e1 hr e2 hz h
      go_enter Try.func25, Try.ntmps25
      go_wp2
      go_ret
      exact ⟨rfl, rfl⟩
    · have e2 : n % m = m - r := by rw [e1, Int.emod_eq_of_lt (by omega) (by omega)]
      have r2 : 1 ≤ r := by omega
      have E0 : Aside (n.tmod m = -r) := e0
      rw [e2]
      clear e1 hr e2 hz h
      go_enter Try.func25, Try.ntmps25
      go_wp2
      go_ret
      have := E0.out
      exact ⟨ret_i (by omega), rfl⟩

/-- The place of a number in a slice that came in. -/
theorem row_at {w : World} {a : Option Addr} {len cap : Nat} {zs : List Int} (h : IsRow w a len cap zs) (j : Nat) (hj : j < len) :
    ∃ b off z, a = some ⟨b, off, none⟩ ∧ w.cell? ⟨b, off + j, none⟩ = some (.int .i64 z) ∧ -9223372036854775808 ≤ z ∧ z ≤ 9223372036854775807 := by
  rcases h with ⟨_, h0, _⟩ | ⟨x, rfl, h1, h2, h3, h4, h5⟩
  · omega
  · obtain ⟨b, off, spot⟩ := x
    have hc := h4 0 (by omega)
    have hspot : spot = none := by simpa [Addr.add] using World.cell?_spot hc
    subst hspot
    have hcj := h4 j (by omega)
    refine ⟨b, off, zs.getD j 0, rfl, ?_, ?_⟩
    · by_cases h0 : j = 0
      · subst h0; simpa [Addr.add] using hcj
      · simpa [Addr.add, h0] using hcj
    · have hm : zs.getD j 0 ∈ zs := by
        rw [List.getD_eq_getElem?_getD, List.getElem?_eq_getElem (by omega)]
        exact List.getElem_mem _
      have := h5 _ hm
      simp only [Lit.wf, Bool.and_eq_true, decide_eq_true_eq] at this
      exact this

set_option maxRecDepth 100000 in
set_option maxHeartbeats 1000000 in
theorem next_any (rb : Nat) (a : Option Addr) (len cap : Nat) (zs : List Int) (k : Nat) (n : Int) (hk : k ≤ 1000000) (n0 : 1 ≤ n) (n1 : n ≤ 4611686018427387904) (w : World) (h : RingIs w rb a len cap zs k) :
    Calls Try.prog 17 #[.pointer (some ⟨rb, 0, none⟩), .int .i64 n] w (Out w rb a len cap zs k n) := by
  have HR : Aside (RingIs (w.setCell ⟨rb, 1, none⟩ (.int .i64 ((k : Int) + 1))) rb a len cap zs (k + 1)) := h.step
  have HK : Aside (RKept rb w (w.setCell ⟨rb, 1, none⟩ (.int .i64 ((k : Int) + 1)))) := (RKept.refl rb w).setCell (.inl rfl) _
  obtain ⟨c0, c1, fz, hrow, hne, hlt⟩ := h
  have hn : ¬ n = 0 := by omega
  by_cases hl : len = 0
  · subst hl
    clear hrow hne
    go_enter Try.func17, Try.ntmps17
    go_wp2
    go_ret
    exact ⟨((k : Int) + 1) * 7919 % 10007 % n, Int.emod_nonneg _ hn, Int.emod_lt_of_pos _ (by omega), rfl, HK.out, HR.out⟩
  · have hl0 : ¬ (len : Int) = 0 := by omega
    have hm := hrow
    have hl1 : (len : Int) ≤ 9223372036854775807 := by
      rcases hm with ⟨_, h0, _⟩ | ⟨x, _, h1, h2, _⟩
      · omega
      · unfold maxLen at h2; omega
    obtain ⟨j, hj⟩ : ∃ j : Nat, j = (k + 1) % len := ⟨_, rfl⟩
    have hjl : j < len := by rw [hj]; exact Nat.mod_lt _ (by omega)
    obtain ⟨b, off, z, rfl, hz, z0, z1⟩ := row_at hrow j hjl
    obtain ⟨hb1, hb2⟩ := hne _ rfl (by rcases hm with ⟨_, h0, _⟩ | ⟨_, _, h1, _⟩ <;> omega)
    have hz' : (w.setCell ⟨rb, 1, none⟩ (.int .i64 ((k : Int) + 1))).cell? ⟨b, off + j, none⟩ = some (.int .i64 z) := by
      rw [World.cell?_setCell_other (h := fun e => hb1 (congrArg Addr.block e).symm)]
      exact hz
    have ej : ((k : Int) + 1) % (len : Int) = (j : Int) := by rw [hj, Int.natCast_emod]; rfl
    obtain ⟨q, hq⟩ : ∃ q : Int, q = ((k : Int) + 1) / (len : Int) := ⟨_, rfl⟩
    have q0 : 0 ≤ q := by rw [hq]; exact Int.ediv_nonneg (by omega) (by omega)
    have q1 : q ≤ (k : Int) + 1 := by rw [hq]; exact Int.ediv_le_self _ (by omega)
    have y0 : 0 ≤ z % 1048576 := by omega
    have y1 : z % 1048576 < 1048576 := by omega
    have d1 : ((k : Int) + 1).tdiv (len : Int) = q := by rw [hq]; exact Int.tdiv_eq_ediv_of_nonneg (by omega)
    have d2 : ((k : Int) + 1).tmod (len : Int) = (j : Int) := by rw [Int.tmod_eq_emod_of_nonneg (by omega), ej]
    obtain ⟨s, hs⟩ : ∃ s : Int, s = z % 1048576 / (1 + q) := ⟨_, rfl⟩
    have s0 : 0 ≤ s := by rw [hs]; exact Int.ediv_nonneg y0 (by omega)
    have s1 : s ≤ 1048576 := by
      have := Int.ediv_le_self (a := z % 1048576) (1 + q) y0
      omega
    have d3 : (z % 1048576).tdiv (1 + q) = s := by rw [hs]; exact Int.tdiv_eq_ediv_of_nonneg y0
    have hq' : ((k : Int) + 1) / (len : Int) = q := hq.symm
    have hs' : z % 1048576 / (1 + q) = s := hs.symm
    have hq1 : ¬ 1 + q = 0 := by omega
    have x0 : 0 ≤ ((k : Int) + 1) * 7919 % 10007 := by omega
    have x1 : ((k : Int) + 1) * 7919 % 10007 < 10007 := by omega
    have hjl' : (j : Int) < (len : Int) := by omega
    clear hrow hne hm hj hl hz hq hs
    go_enter Try.func17, Try.ntmps17
    go_wp2
    have i1 : IntKind.i64.wrap (1 + q) = 1 + q := IntWalk.i64_in _ (by omega)
    have i2 : IntKind.i64.wrap q = q := IntWalk.i64_in _ (by omega)
    have i3 : IntKind.i64.wrap s = s := IntWalk.i64_in _ (by omega)
    have i4 : IntKind.i64.wrap (((k : Int) + 1) * 7919 % 10007 + s) = ((k : Int) + 1) * 7919 % 10007 + s := IntWalk.i64_in _ (by omega)
    have i5 : IntKind.i64.wrap (j : Int) = (j : Int) := IntWalk.i64_in _ (by omega)
    go_quiet ((go_at_call 25; exact Calls.quiet_of_same (mod_any z 1048576 z0 z1 (by omega) (by omega) _)))
    clear i1 i2 i3 i4 i5
    go_wp2
    go_ret
    exact ⟨(((k : Int) + 1) * 7919 % 10007 + s) % n, Int.emod_nonneg _ hn, Int.emod_lt_of_pos _ (by omega), rfl, HK.out.drewN _, HR.out.drewN _⟩

/-- Behind NewRing: a new ring that has handed out nothing. -/
def NewR (w : World) (a : Option Addr) (len cap : Nat) (zs : List Int) (e : Ending) (w' : World) : Prop :=
  ∃ rb, w.heap.size ≤ rb ∧ e = .returned (.pointer (some ⟨rb, 0, none⟩)) ∧ Below w.heap.size w w' ∧ RingIs w' rb a len cap zs 0
set_option maxHeartbeats 400000 in
theorem newRing_any (a : Option Addr) (len cap : Nat) (zs : List Int) (w : World) (hrow : IsRow w a len cap zs) :
    Calls Try.prog 14 #[.slice a len cap] w (NewR w a len cap zs) := by
  have hlt : ∀ x, a = some x → 0 < cap → x.block < w.heap.size := by
    intro x hx hc
    rcases hrow with ⟨h0, _⟩ | ⟨y, rfl, h1, h2, h3, h4, h5⟩
    · rw [h0] at hx; cases hx
    · cases hx
      have := h4 0 (by omega)
      exact lt_of_cell (p := x) (by simpa [Addr.add] using this)
  go_enter Try.func14, Try.ntmps14
  go_wp2
  go_ret
  have hb : Below w.heap.size w (w.alloc (.cells #[.slice a len cap, .int .i64 0] 89)) := (Below.refl _ _).alloc (Nat.le_refl _) _
  refine ⟨w.heap.size, Nat.le_refl _, rfl, hb, ⟨by simp [go_sem], by simp [go_sem], by simp [go_sem], ?_, fun x hx hc => ⟨?_, ?_⟩, by simp⟩⟩
  · rcases hrow with h0 | ⟨x, rfl, h1, h2, h3, h4, h5⟩
    · exact .inl h0
    · refine .inr ⟨x, rfl, h1, h2, h3, fun i hi => ?_, h5⟩
      rw [hb.cell (p := x.add i) (by rw [Addr.add]; split <;> exact hlt x rfl (by omega))]
      exact h4 i hi
  · have := hlt x hx hc; omega
  · have := hlt x hx hc; simp; omega
end Go.Proofs.Ytngcfohmlppghaa
