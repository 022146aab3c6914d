/- Samples that are made: their numbers, ticks and values; what an append and the ring do to a row of the call's own. -/
import Derived.Test.YtngcfohmlppghaaKy
import Derived.OwnWalk
namespace Go.Proofs.Ytngcfohmlppghaa
open Go.RowKit

theorem info_sample : (Try.prog.info? 49).map (fun i => (i.zero, i.size, i.bytes)) = some (some (.agg #[.int .i64 0, .int .i64 0, .int .i64 0]), 3, 24) := by kernel_rfl

/-- The cells of samples: their numbers and errors are listed. -/
def smC (sn c r g s ph p bg : Int) (L : List (Int × Int)) : List Value := L.flatMap fun x => [.int .i64 sn, .int .i64 (ph + x.1 * p), .int .i64 (sayV c r g (ph + x.1 * p - bg) + x.2 * s)]
/-- Numbers and errors of possible samples: few are missing in a row, errors are within the noise, ticks are at most the last one. -/
inductive Ch (p ph last g n : Int) : List (Int × Int) → Int → Prop
  | nil : Ch p ph last g n [] (-1)
  | snoc {L : List (Int × Int)} {a b e : Int} : Ch p ph last g n L a → a < b → b ≤ a + g → -n ≤ e → e ≤ n → ph + b * p ≤ last → Ch p ph last g n (L ++ [(b, e)]) b
theorem smC_snoc (sn c r g s ph p bg : Int) (L : List (Int × Int)) (b e : Int) : smC sn c r g s ph p bg (L ++ [(b, e)]) = smC sn c r g s ph p bg L ++ [.int .i64 sn, .int .i64 (ph + b * p), .int .i64 (sayV c r g (ph + b * p - bg) + e * s)] := by
  simp [smC]
theorem RKept.grown {rb : Nat} {w w1 w2 : World} {row : Option Nat} (h : RKept rb w w1) (hg : w1.grownBy w2 row) (hr : ∀ k, row = some k → w.heap.size ≤ k) : RKept rb w w2 :=
  ⟨hg.os.trans h.os, hg.tape.trans h.tape, hg.output.trans h.output, Nat.le_trans h.size hg.size, fun k hk hne => (hg.block k (Nat.lt_of_lt_of_le hk h.size) (fun e => by have := hr k e.symm; omega)).trans (h.block k hk hne)⟩
theorem RKept.grownBy {rb : Nat} {w w' : World} (h : RKept rb w w') : w.grownBy w' (some rb) := ⟨h.os, h.tape, h.output, h.size, fun k hk hne => h.block k hk (fun e => hne (by rw [e]))⟩
theorem RingIs.grown {w w' : World} {rb : Nat} {a : Option Addr} {len cap : Nat} {zs : List Int} {n : Nat} {row : Option Nat} (h : RingIs w rb a len cap zs n) (hg : w.grownBy w' row) (h1 : row ≠ some rb) (h2 : ∀ x, a = some x → 0 < cap → row ≠ some x.block) : RingIs w' rb a len cap zs n := by
  refine ⟨hg.cell h.c0 (fun e => h1 e.symm), hg.cell h.c1 (fun e => h1 e.symm), (World.frozen?_of_block (w := w) (a := ⟨rb, 1, none⟩) (hg.block rb h.lt (fun e => h1 e.symm))).trans h.fz, ?_, fun x hx hc => ⟨(h.ne x hx hc).1, Nat.lt_of_lt_of_le (h.ne x hx hc).2 hg.size⟩, Nat.lt_of_lt_of_le h.lt hg.size⟩
  rcases h.row with h0 | ⟨x, hx, g1, g2, g3, g4, g5⟩
  · exact .inl h0
  · exact .inr ⟨x, hx, g1, g2, g3, fun i hi => hg.cell (g4 i hi) (fun e => h2 x hx (by omega) (by rw [← e, Addr.add]; split <;> rfl)), g5⟩
theorem own_ring {w w' : World} {rb B : Nat} {ty : TypeId} {sz n : Nat} {v : Value} {xs : List Value} (h : w.ownsRow B ty sz v n xs) (k : RKept rb w w') (hB : rb < B) : w'.ownsRow B ty sz v n xs :=
  h.kept k.grownBy (.inr (fun e => by have := (h.lt rb e).1; omega))
theorem own_slice {w : World} {B : Nat} {ty : TypeId} {sz n : Nat} {v : Value} {xs : List Value} (h : w.ownsRow B ty sz v n xs) : ∃ ao cp, v = .slice ao n cp := by
  rcases h.2 with ⟨rfl, rfl⟩ | ⟨g, cap, cur, rfl, _⟩
  · exact ⟨_, _, rfl⟩
  · exact ⟨_, _, rfl⟩
theorem cells3 (w : World) (ty : TypeId) (x y z : Value) : ∀ j u, [x, y, z][j]? = some u → (w.alloc (.cells #[x, y, z] ty)).cell? ((⟨w.heap.size, 0, none⟩ : Addr).add j) = some u := by
  intro j u hj
  match j, hj with
  | 0, hj => simp at hj; subst hj; simp [Addr.add, go_sem]
  | 1, hj => simp at hj; subst hj; simp [Addr.add, go_sem]
  | 2, hj => simp at hj; subst hj; simp [Addr.add, go_sem]
theorem one3 {a b c : Int} {k1 k2 k3 : IntKind} : ∀ u ∈ [Value.int k1 a, Value.int k2 b, Value.int k3 c], u.oneCell' = true := by
  intro u hu
  simp at hu
  rcases hu with rfl | rfl | rfl <;> rfl
/-- Samples were made. -/
def SampOut (w : World) (rb : Nat) (a : Option Addr) (len cap : Nat) (zs : List Int) (k0 : Nat) (sn c p n s l r g bg last : Int) (e : Ending) (w' : World) : Prop :=
  ∃ (L : List (Int × Int)) (la A ph : Int) (j : Nat) (v : Value), 0 ≤ ph ∧ ph < p ∧ Ch p ph last (l + 1) n L la ∧ la < A ∧ A - 1 - la ≤ l ∧ 0 ≤ A ∧ (last < ph + A * p ∨ L.length = 190) ∧ L.length ≤ 190 ∧ j ≤ k0 + 80000 ∧
    e = .returned v ∧ w'.ownsRow w.heap.size 49 3 v L.length (smC sn c r g s ph p bg L) ∧ RKept rb w w' ∧ RingIs w' rb a len cap zs j
end Go.Proofs.Ytngcfohmlppghaa
