/- Lists of integers that may be nil; the contract of the program's Chance at a valid blow-out and a valid run; the examples that every statement of layer 10 asks for. -/
import Derived.Test.YtgohbjlfgiohiaaHf
import Derived.Test.YtgohbjlfgiohiaaHd
namespace Go.Proofs.Ytgohbjlfgiohiaa
open Go.RowKit

/-- A list of integers, empty or not. -/
def IsL (w : World) (ra : Option Addr) (len : Nat) (mv : Nat → Int) : Prop := len = 0 ∨ ∃ b o, ra = some ⟨b, o, none⟩ ∧ ∀ k, k < len → w.cell? ⟨b, o + k, none⟩ = some (.int .i64 (mv k))
theorem IsL.below {w w' : World} {ra : Option Addr} {len : Nat} {mv : Nat → Int} (h : IsL w ra len mv) (k : Below w.heap.size w w') : IsL w' ra len mv := by
  rcases h with h | ⟨b, o, rfl, h⟩
  · exact .inl h
  · exact .inr ⟨b, o, rfl, fun q hq => (k.cell (p := ⟨_, _, _⟩) (lt_of_cell (h q hq))).trans (h q hq)⟩
set_option maxHeartbeats 400000 in
theorem indexFunc_l (g : Nat) (hE : ∀ (args : Array Value) (w : World), (callFunc g args).run Try.prog w = .ok (.enter g args) w) (c : Value) (p : Nat → Bool) (ra : Option Addr) (len cp : Nat) (mv : Nat → Int) (w0 : World) (hl : len ≤ 9223372036854775807)
    (hm : IsL w0 ra len mv)
    (hF : ∀ k, k < len → ∀ w, Below w0.heap.size w0 w → Calls Try.prog g #[.int .i64 (mv k), c] w fun e w' => e = .returned (.bool (p k)) ∧ Below w.heap.size w w') :
    Calls Try.prog 37 #[.slice ra len cp, .func (.func g) #[] #[c]] w0 fun e w' => ∃ r : Int, e = .returned (.int .i64 r) ∧ Below w0.heap.size w0 w' ∧ Fst p len r := by
  rcases hm with rfl | ⟨b, o, rfl, hm⟩
  · clear hF hE
    go_enter Try.func37, Try.ntmps37
    go_wp2_with fail
    go_loopg [8] 0 (fun f v8 wr => v8 = .int .i64 0 ∧ w0 = wr)
    case atStart => exact ⟨rfl, rfl⟩
    case round =>
      obtain ⟨rfl, rfl⟩ := hrel
      go_wp2_with fail
      go_ret
      exact ⟨_, rfl, Below.refl _ _, .inl ⟨rfl, fun k hk => absurd hk (by omega)⟩⟩
  · exact indexFunc_any g hE c p b o len cp mv w0 hl hm hF
set_option maxHeartbeats 400000 in
theorem containsFunc_l (g : Nat) (hE : ∀ (args : Array Value) (w : World), (callFunc g args).run Try.prog w = .ok (.enter g args) w) (c : Value) (p : Nat → Bool) (ra : Option Addr) (len cp : Nat) (mv : Nat → Int) (w0 : World) (hl : len ≤ 9223372036854775807)
    (hm : IsL w0 ra len mv)
    (hF : ∀ k, k < len → ∀ w, Below w0.heap.size w0 w → Calls Try.prog g #[.int .i64 (mv k), c] w fun e w' => e = .returned (.bool (p k)) ∧ Below w.heap.size w w') :
    Calls Try.prog 31 #[.slice ra len cp, .func (.func g) #[] #[c]] w0 fun e w' => ∃ r : Bool, e = .returned (.bool r) ∧ Below w0.heap.size w0 w' ∧ (r = true ↔ ∃ k, k < len ∧ p k = true) := by
  have h := indexFunc_l g hE c p ra len cp mv w0 hl hm hF
  have H : Aside (Calls Try.prog 37 #[.slice ra len cp, .func (.func g) #[] #[c]] w0 fun e w' => ∃ r : Int, e = .returned (.int .i64 r) ∧ Below w0.heap.size w0 w' ∧ Fst p len r) := h
  clear h hF hm hE
  go_enter Try.func31, Try.ntmps31
  go_wp2_with (refine H.out.mono ?_; rintro e w' ⟨r, rfl, hb, hr⟩)
  go_ret
  refine ⟨_, rfl, hb, ?_⟩
  rcases hr with ⟨rfl, h⟩ | ⟨k, hk, rfl, h1, h2⟩
  · simp
    exact h
  · simp
    exact ⟨k, hk, h1⟩

/-- The last place of a run that is safe. -/
def lastC (s : Nat → Bool) (rv : Nat → Int) : Nat → Int
  | 0 => -1
  | k + 1 => if s (rv k).toNat then (k : Int) else lastC s rv k
def chI (s : Nat → Bool) (rv : Nat → Int) (n : Nat) : Int := if lastC s rv n = -1 then 0 else lastC s rv n
def chB (s : Nat → Bool) (rv : Nat → Int) (n : Nat) : Bool := !decide (lastC s rv n = -1)
def ChanceOut (w : World) (n : Nat) (lost : Nat → Bool) (len : Nat → Nat) (mv : Nat → Nat → Int) (rv : Nat → Int) (rl : Nat) (e : Ending) (w' : World) : Prop :=
  ∃ s, IsSafe n lost len mv s ∧ e = .returned (.tuple #[.int .i64 (chI s rv rl), .bool (chB s rv rl)]) ∧ Below w.heap.size w w'
/-- Safe states are what they are. -/
theorem IsSafe.unique {n : Nat} {lost : Nat → Bool} {len : Nat → Nat} {mv : Nat → Nat → Int} {s t : Nat → Bool} (h : IsSafe n lost len mv s) (k : IsSafe n lost len mv t) : ∀ i, i < n → s i = t i := by
  intro i hi
  cases hs : s i <;> cases ht : t i
  · rfl
  · rw [h.big t k.post i hi ht] at hs; cases hs
  · rw [k.big s h.post i hi hs] at ht; cases ht
  · rfl
set_option maxRecDepth 100000 in
set_option maxHeartbeats 4000000 in
theorem chance_ok {lb lo mb mo n lc mc : Nat} {lost : Nat → Bool} {P O C len : Nat → Nat} {mv : Nat → Nat → Int} (hv : Okb n len mv) (ra : Option Addr) (rl rc : Nat) (rv : Nat → Int) (hrl : rl ≤ 400) (hr0 : ∀ k, k < rl → 0 ≤ rv k) (hr1 : ∀ k, k < rl → rv k < n)
    (w : World) (h : BIs w lb lo mb mo n lost P O C len mv) (hr : IsL w ra rl rv) :
    Calls Try.prog 13 #[.agg (bv lb lo mb mo n lc mc), .slice ra rl rc] w (ChanceOut w n lost len mv rv rl) := by
  have hmf : ∀ (fn : Fn) (first cap : Array Value) (w : World), (Instr.makeFunc fn first cap).run Try.prog w = .ok (.func fn first cap) w := fun _ _ _ _ => rfl
  have HE : Aside (∀ (args : Array Value) (w : World), (callFunc 34 args).run Try.prog w = .ok (.enter 34 args) w) := fun args w => call_enter Try.func34 (by kernel_rfl) (by kernel_rfl) args w
  have n1 := hv.n1
  have n2 := hv.n2
  have hl2 : (rl : Int) ≤ 400 := by omega
  have HB : Aside (BIs w lb lo mb mo n lost P O C len mv) := h
  have HR : Aside (IsL w ra rl rv) := hr
  have HR0 : Aside (∀ k, k < rl → 0 ≤ rv k) := hr0
  have HR1 : Aside (∀ k, k < rl → rv k < n) := hr1
  clear h hr hr0 hr1
  go_enter Try.func13, Try.ntmps13
  go_wp2_with fail
  obtain ⟨W, hW⟩ : ∃ W, W = w.alloc (.cells (bv lb lo mb mo n lc mc) 25) := ⟨_, rfl⟩
  have b0 : Below w.heap.size w W := by rw [hW]; go_grown
  have c0 : W.cell? ⟨w.heap.size, 0, none⟩ = some (.slice (some ⟨lb, lo, none⟩) n lc) := by rw [hW]; simp [go_sem]
  have c1 : W.cell? ⟨w.heap.size, 1, none⟩ = some (.slice (some ⟨mb, mo, none⟩) n mc) := by rw [hW]; simp [go_sem]
  rw [← hW]
  clear hW
  go_wp2_with fail
  refine (checkBlow_ok hv _ (HB.out.below b0)).mono ?_
  rintro e w1 ⟨rfl, hb1⟩
  have d0 := (hb1.cell (p := ⟨_, _, _⟩) (lt_of_cell c0)).trans c0
  have d1 := (hb1.cell (p := ⟨_, _, _⟩) (lt_of_cell c1)).trans c1
  have hbw : Below w.heap.size w w1 := below_next b0 hb1
  clear hb1 c0 c1
  go_wp2_with fail
  have hF : ∀ k, k < rl → ∀ w2, Below w1.heap.size w1 w2 → Calls Try.prog 34 #[.int .i64 (rv k), .pointer (some ⟨w.heap.size, 0, none⟩)] w2 fun e w' => e = .returned (.bool (!isSt n (rv k))) ∧ Below w2.heap.size w2 w' := fun j hj w2 hb2 => out_any lb lo mb mo n lc mc (rv j) w.heap.size w2 ((hb2.cell (p := ⟨_, _, _⟩) (lt_of_cell d0)).trans d0) ((hb2.cell (p := ⟨_, _, _⟩) (lt_of_cell d1)).trans d1)
  refine (containsFunc_l 34 HE.out (.pointer (some ⟨w.heap.size, 0, none⟩)) (fun j => !isSt n (rv j)) ra rl rc rv w1 (by omega) (HR.out.below hbw) hF).mono ?_
  rintro e w3 ⟨r, rfl, hb3, hr⟩
  obtain rfl := noBad hr HR0.out HR1.out
  have e0 := (hb3.cell (p := ⟨_, _, _⟩) (lt_of_cell d0)).trans d0
  have e1 := (hb3.cell (p := ⟨_, _, _⟩) (lt_of_cell d1)).trans d1
  have hbw3 : Below w.heap.size w w3 := below_next hbw hb3
  clear hF hr hb3 d0 d1 hbw b0
  go_wp2_with fail
  refine (safe_ok hv w3 (HB.out.below hbw3)).mono ?_
  rintro e w4 ⟨a, s, rfl, hrow, -, hb4, hS⟩
  have HW4 : Aside (∀ i, i < n → w4.cell? ⟨a, i, none⟩ = some (.bool (s i))) := hrow
  have HS : Aside (IsSafe n lost len mv s) := hS
  have hbw4 : Below w.heap.size w w4 := below_next hbw3 hb4
  have HR4 : Aside (IsL w4 ra rl rv) := HR.out.below hbw4
  have HBW : Aside (Below w.heap.size w w4) := hbw4
  clear hrow hS hb4 hbw4 hbw3 e0 e1
  go_wp2_with fail
  go_loopg [7] rl (fun f v wr => ∃ k : Nat, v = .int .i64 ((k : Int) - 1) ∧ k = f ∧ k ≤ rl ∧ w4 = wr ∧ lastC s rv rl = lastC s rv k)
  case atStart => exact ⟨rl, by go_num, rfl, Nat.le_refl _, rfl, rfl⟩
  case round =>
    obtain ⟨k, rfl, rfl, hk, rfl, hL⟩ := hrel
    have HL : Aside (lastC s rv rl = lastC s rv k) := hL
    clear hL
    cases k with
    | zero =>
      go_wp2_with fail
      refine bodyPost_ret (v := .tuple #[.int .i64 0, .bool false]) (by simp [results, Try.results13, go_sem]) rfl ⟨s, HS.out, ?_, HBW.out⟩
      rw [chI, chB, HL.out]
      rfl
    | succ k =>
      have hk' : k < rl := by omega
      obtain ⟨b, o, rfl, hc⟩ : ∃ b o, ra = some ⟨b, o, none⟩ ∧ w4.cell? ⟨b, o + k, none⟩ = some (.int .i64 (rv k)) := by
        rcases HR4.out with h0 | ⟨b, o, rfl, h⟩
        · omega
        · exact ⟨b, o, rfl, h k hk'⟩
      obtain ⟨x, hx⟩ : ∃ x : Nat, rv k = (x : Int) := ⟨(rv k).toNat, by have := HR0.out k hk'; omega⟩
      have hxn : x < n := by have := HR1.out k hk'; omega
      rw [hx] at hc
      have hcx := HW4.out x hxn
      have HX : Aside (rv k = (x : Int)) := hx
      clear hx
      obtain ⟨y, hy⟩ : ∃ y, y = s x := ⟨_, rfl⟩
      have HY : Aside (y = s x) := hy
      rw [← hy] at hcx
      clear hy
      have hxi : (x : Int) < n := by omega
      have hki : (k : Int) < rl := by omega
      cases y
      · go_wp2_with fail
        go_roundg k
        case measure => omega
        case rel =>
          refine ⟨k, by go_num, rfl, by omega, rfl, ?_⟩
          rw [HL.out, lastC, HX.out, Int.toNat_natCast, ← HY.out]
          rfl
      · go_wp2_with fail
        refine bodyPost_ret (v := .tuple #[.int .i64 k, .bool true]) (by simp [results, Try.results13, go_sem]) rfl ⟨s, HS.out, ?_, HBW.out⟩
        have e : lastC s rv rl = (k : Int) := by rw [HL.out, lastC, HX.out, Int.toNat_natCast, ← HY.out]; rfl
        have e' : ¬ (k : Int) = -1 := by omega
        rw [chI, chB, e, if_neg e']
        simp [e']
end Go.Proofs.Ytgohbjlfgiohiaa
