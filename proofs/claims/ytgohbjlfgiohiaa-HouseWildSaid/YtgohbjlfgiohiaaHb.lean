/- The search in a list of integers by a function value: slices.IndexFunc and slices.ContainsFunc. -/
import Derived.Test.YtgohbjlfgiohiaaHa
namespace Go.Proofs.Ytgohbjlfgiohiaa
open Go.RowKit

/-- The first place at which p holds, or -1. -/
def Fst (p : Nat → Bool) (len : Nat) (r : Int) : Prop := (r = -1 ∧ ∀ k, k < len → p k = false) ∨ ∃ k, k < len ∧ r = (k : Int) ∧ p k = true ∧ ∀ j, j < k → p j = false
set_option maxHeartbeats 1000000 in
theorem indexFunc_any (g : Nat) (hE : ∀ (args : Array Value) (w : World), (callFunc g args).run Try.prog w = .ok (.enter g args) w) (c : Value) (p : Nat → Bool) (b o len cp : Nat) (mv : Nat → Int) (w0 : World) (hl : len ≤ 9223372036854775807)
    (hm : ∀ k, k < len → w0.cell? ⟨b, o + k, none⟩ = some (.int .i64 (mv k)))
    (hF : ∀ k, k < len → ∀ w, Below w0.heap.size w0 w → Calls Try.prog g #[.int .i64 (mv k), c] w fun e w' => e = .returned (.bool (p k)) ∧ Below w.heap.size w w') :
    Calls Try.prog 37 #[.slice (some ⟨b, o, none⟩) len cp, .func (.func g) #[] #[c]] w0 fun e w' => ∃ r : Int, e = .returned (.int .i64 r) ∧ Below w0.heap.size w0 w' ∧ Fst p len r := by
  have HF : Aside (∀ k, k < len → ∀ w, Below w0.heap.size w0 w → Calls Try.prog g #[.int .i64 (mv k), c] w fun e w' => e = .returned (.bool (p k)) ∧ Below w.heap.size w w') := hF
  have HM : Aside (∀ k, k < len → w0.cell? ⟨b, o + k, none⟩ = some (.int .i64 (mv k))) := hm
  clear hF hm
  go_enter Try.func37, Try.ntmps37
  go_wp2_with fail
  go_loopg [8] len (fun f v8 wr => ∃ k : Nat, v8 = .int .i64 k ∧ k + f = len ∧ Below w0.heap.size w0 wr ∧ ∀ j, j < k → p j = false)
  case atStart => exact ⟨0, rfl, by omega, Below.refl _ _, fun j hj => absurd hj (by omega)⟩
  case round =>
    obtain ⟨k, rfl, hk, hb, hp⟩ := hrel
    have HP : Aside (∀ j, j < k → p j = false) := hp
    clear hp
    by_cases hend : k < len
    · have hend' : (k : Int) < len := by omega
      have hc : wr.cell? ⟨b, o + k, none⟩ = some (.int .i64 (mv k)) := (hb.cell (p := ⟨_, _, _⟩) (lt_of_cell (HM.out k hend))).trans (HM.out k hend)
      obtain ⟨f, rfl⟩ : ∃ f, gk = f + 1 := ⟨gk - 1, by omega⟩
      obtain ⟨pk, hpk⟩ : ∃ z, z = p k := ⟨_, rfl⟩
      have HX : Aside (pk = p k) := hpk
      have hF := HF.out k hend wr hb
      rw [← hpk] at hF
      have HF' : Aside (Calls Try.prog g #[.int .i64 (mv k), c] wr fun e w' => e = .returned (.bool pk) ∧ Below wr.heap.size wr w') := hF
      clear hF hpk
      cases pk
      · go_wp2_with (refine HF'.out.mono ?_; rintro e w2 ⟨rfl, hb2⟩)
        go_roundg f
        case measure => omega
        case rel => exact ⟨k + 1, by simp, by omega, below_next hb hb2, fun j hj => by rcases Nat.lt_succ_iff_lt_or_eq.1 hj with h | h; exact HP.out j h; subst h; exact HX.out.symm⟩
      · go_wp2_with (refine HF'.out.mono ?_; rintro e w2 ⟨rfl, hb2⟩)
        go_ret
        exact ⟨_, rfl, below_next hb hb2, .inr ⟨k, hend, rfl, HX.out.symm, HP.out⟩⟩
    · have hend' : ¬ (k : Int) < len := by omega
      go_wp2_with fail
      go_ret
      exact ⟨_, rfl, hb, .inl ⟨rfl, fun j hj => HP.out j (by omega)⟩⟩
set_option maxHeartbeats 400000 in
theorem containsFunc_any (g : Nat) (hE : ∀ (args : Array Value) (w : World), (callFunc g args).run Try.prog w = .ok (.enter g args) w) (c : Value) (p : Nat → Bool) (b o len cp : Nat) (mv : Nat → Int) (w0 : World) (hl : len ≤ 9223372036854775807)
    (hm : ∀ k, k < len → w0.cell? ⟨b, o + k, none⟩ = some (.int .i64 (mv k)))
    (hF : ∀ k, k < len → ∀ w, Below w0.heap.size w0 w → Calls Try.prog g #[.int .i64 (mv k), c] w fun e w' => e = .returned (.bool (p k)) ∧ Below w.heap.size w w') :
    Calls Try.prog 31 #[.slice (some ⟨b, o, none⟩) len cp, .func (.func g) #[] #[c]] w0 fun e w' => ∃ r : Bool, e = .returned (.bool r) ∧ Below w0.heap.size w0 w' ∧ (r = true ↔ ∃ k, k < len ∧ p k = true) := by
  have h := indexFunc_any g hE c p b o len cp mv w0 hl hm hF
  have H : Aside (Calls Try.prog 37 #[.slice (some ⟨b, o, none⟩) len cp, .func (.func g) #[] #[c]] w0 fun e w' => ∃ r : Int, e = .returned (.int .i64 r) ∧ Below w0.heap.size w0 w' ∧ Fst p len r) := h
  clear h hF hm hE
  go_enter Try.func31, Try.ntmps31
  go_wp2_with (refine H.out.mono ?_; rintro e w' ⟨r, rfl, hb, hr⟩)
  go_ret
  refine ⟨_, rfl, hb, ?_⟩
  rcases hr with ⟨rfl, h⟩ | ⟨k, hk, rfl, h1, h2⟩
  · simp
    exact h
  · simp
    exact ⟨k, hk, h1⟩
end Go.Proofs.Ytgohbjlfgiohiaa
