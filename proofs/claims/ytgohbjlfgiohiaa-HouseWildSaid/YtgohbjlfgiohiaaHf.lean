/- The contract of the program's Safe at a valid blow-out. -/
import Derived.Test.YtgohbjlfgiohiaaHe
import Derived.Deep.OwnRows
import Derived.WalkMore
namespace Go.Proofs.Ytgohbjlfgiohiaa
open Go.RowKit

theorem cnt_le_cong {s t : Nat → Bool} : ∀ n, (∀ i, i < n → s i = t i) → cnt n s = cnt n t
  | 0, _ => rfl
  | n + 1, h => by unfold cnt; rw [cnt_le_cong n (fun i hi => h i (by omega)), h n (by omega)]
theorem Sst.cong {w : World} {bb sb ab lb lo mb mo n lc mc : Nat} {s t : Nat → Bool} {x : World} (h : Sst w bb sb ab lb lo mb mo n lc mc s x) (e : ∀ i, i < n → s i = t i) : Sst w bb sb ab lb lo mb mo n lc mc t x :=
  ⟨h.old, h.c0, h.c1, h.sc, fun i hi => by rw [← e i hi]; exact h.row i hi, h.fz⟩
/-- What the outer loop holds of the list. -/
structure Mid (n : Nat) (lost : Nat → Bool) (len : Nat → Nat) (mv : Nat → Nat → Int) (s : Nat → Bool) : Prop where
  nl : ∀ i, i < n → s i = true → lost i = false
  big : ∀ t, Post n lost len mv t → ∀ i, i < n → t i = true → s i = true
theorem Mid.start {n : Nat} {lost : Nat → Bool} {len : Nat → Nat} {mv : Nat → Nat → Int} : Mid n lost len mv (fun i => !lost i) :=
  ⟨fun i _ h => by simpa using h, fun t ht i hi h => by simp [(ht i hi h).1]⟩
theorem Mid.next {n : Nat} {lost : Nat → Bool} {len : Nat → Nat} {mv : Nat → Nat → Int} {s : Nat → Bool} (h : Mid n lost len mv s) {k : Nat} (hv : Okb n len mv) (hk : k < n) (hno : ∀ q, q < len k → s (mv k q).toNat = false) : Mid n lost len mv (updB s k false) := by
  refine ⟨fun i hi hs => ?_, fun t ht i hi hti => ?_⟩
  · by_cases e : i = k
    · subst e; rw [updB_same] at hs; cases hs
    · rw [updB_other _ _ e] at hs; exact h.nl i hi hs
  · by_cases e : i = k
    · subst e
      obtain ⟨-, q, hq, hx⟩ := ht i hi hti
      have := h.big t ht (mv i q).toNat (by have := hv.m1 i q hi hq; have := hv.m0 i q hi hq; omega) hx
      rw [hno q hq] at this; cases this
    · rw [updB_other _ _ e]; exact h.big t ht i hi hti
theorem Mid.done {n : Nat} {lost : Nat → Bool} {len : Nat → Nat} {mv : Nat → Nat → Int} {s : Nat → Bool} (h : Mid n lost len mv s) (hx : ∀ i, i < n → s i = true → ∃ q, q < len i ∧ s (mv i q).toNat = true) : IsSafe n lost len mv s :=
  ⟨fun i hi hs => ⟨h.nl i hi hs, hx i hi hs⟩, h.big⟩
set_option maxRecDepth 100000 in
set_option maxHeartbeats 4000000 in
theorem safe_ok {lb lo mb mo n lc mc : Nat} {lost : Nat → Bool} {P O C len : Nat → Nat} {mv : Nat → Nat → Int} (hv : Okb n len mv) (w : World) (h : BIs w lb lo mb mo n lost P O C len mv) :
    Calls Try.prog 9 #[.agg (bv lb lo mb mo n lc mc)] w (SafeOut w n lost len mv) := by
  have hmf : ∀ (fn : Fn) (first cap : Array Value) (w : World), (Instr.makeFunc fn first cap).run Try.prog w = .ok (.func fn first cap) w := fun _ _ _ _ => rfl
  have HE : Aside (∀ (args : Array Value) (w : World), (callFunc 30 args).run Try.prog w = .ok (.enter 30 args) w) := fun args w => call_enter Try.func30 (by kernel_rfl) (by kernel_rfl) args w
  have n1 := hv.n1
  have n2 := hv.n2
  have hmk := run_make_row' (P := Try.prog) 22 4 (.bool false) 1 Try.underlying22 (by kernel_rfl) rfl .i64 .i64 n (by omega) (by omega)
  have HB : Aside (BIs w lb lo mb mo n lost P O C len mv) := h
  have HV : Aside (Okb n len mv) := hv
  clear h hv
  go_enter Try.func9, Try.ntmps9
  go_wp2_with fail
  obtain ⟨W, hW⟩ : ∃ W, W = w.alloc (.cells (bv lb lo mb mo n lc mc) 25) := ⟨_, rfl⟩
  have b0 : Below w.heap.size w W := by rw [hW]; go_grown
  have hsz : W.heap.size = w.heap.size + 1 := by rw [hW]; simp
  have c0 : W.cell? ⟨w.heap.size, 0, none⟩ = some (.slice (some ⟨lb, lo, none⟩) n lc) := by rw [hW]; simp [go_sem]
  have c1 : W.cell? ⟨w.heap.size, 1, none⟩ = some (.slice (some ⟨mb, mo, none⟩) n mc) := by rw [hW]; simp [go_sem]
  rw [← hW]
  clear hW
  go_step3
  go_wp2_with fail
  refine (checkBlow_ok HV.out _ (HB.out.below b0)).mono ?_
  rintro e w1 ⟨rfl, hb1⟩
  have d0 := (hb1.cell (p := ⟨_, _, _⟩) (lt_of_cell c0)).trans c0
  have d1 := (hb1.cell (p := ⟨_, _, _⟩) (lt_of_cell c1)).trans c1
  have hs1 : w.heap.size + 1 ≤ w1.heap.size := by have := hb1.size; omega
  have hbw : Below w.heap.size w w1 := below_next b0 hb1
  clear hb1 c0 c1
  go_upto_region 4 with fail
  obtain ⟨W1, hW1⟩ : ∃ W1, W1 = (w1.alloc (.cells (madeCells #[.bool false] n) 4)).alloc (.cells #[.slice (some ⟨w1.heap.size, 0, none⟩) n n] 22) := ⟨_, rfl⟩
  obtain ⟨ab, hab⟩ : ∃ ab, ab = w1.heap.size := ⟨_, rfl⟩
  have hss : W1.heap.size = w1.heap.size + 2 := by rw [hW1]; simp
  have S0 : Sst w w.heap.size (ab + 1) ab lb lo mb mo n lc mc (fun _ => false) W1 := by
    rw [hW1]
    have hb : Below w1.heap.size w1 ((w1.alloc (.cells (madeCells #[.bool false] n) 4)).alloc (.cells #[.slice (some ⟨w1.heap.size, 0, none⟩) n n] 22)) := by go_grown
    refine ⟨below_next hbw hb, (hb.cell (p := ⟨_, _, _⟩) hs1).trans d0, (hb.cell (p := ⟨_, _, _⟩) hs1).trans d1, by rw [hab]; simp [go_sem], fun i hi => ?_, fun i hi => ?_⟩
    · rw [hab]; exact ((w1.rowIs_made (.bool false) n 4).alloc _).cell hi
    · rw [hab]; exact ((w1.rowIs_made (.bool false) n 4).alloc _).frozen i
  have sbne : w.heap.size ≠ ab := by omega
  have aw : w.heap.size ≤ ab := by omega
  rw [← hW1, ← hab]
  have hss' : W1.heap.size = ab + 2 := by omega
  clear hW1 hab hss d0 d1 hbw hmk hsz b0 hs1
  have d0 := S0.c0
  have d1 := S0.c1
  have HS0 : Aside (Sst w w.heap.size (ab + 1) ab lb lo mb mo n lc mc (fun _ => false) W1) := S0
  clear S0
  go_wp2_with fail
  go_loopg [18] n (fun f v wr => ∃ k : Nat, v = .int .i64 k ∧ k + f = n ∧ Sst w w.heap.size (ab + 1) ab lb lo mb mo n lc mc (fun i => decide (i < k) && !lost i) wr)
  case atStart => exact ⟨0, rfl, by omega, by simpa using HS0.out⟩
  case round =>
    obtain ⟨k, rfl, hk, hS⟩ := hrel
    have HS : Aside (Sst w w.heap.size (ab + 1) ab lb lo mb mo n lc mc (fun i => decide (i < k) && !lost i) wr) := hS
    clear hS
    by_cases hend : k < n
    · have hend' : (k : Int) < n := by omega
      obtain ⟨f, rfl⟩ : ∃ f, gk = f + 1 := ⟨gk - 1, by omega⟩
      have cl := (HB.out.below HS.out.old).lost k hend
      obtain ⟨lk, hlk⟩ : ∃ lk, lk = lost k := ⟨_, rfl⟩
      rw [← hlk] at cl
      have HL : Aside (lk = lost k) := hlk
      clear hlk
      have cs := HS.out.sc
      have cr := HS.out.row k hend
      have cf := HS.out.fz k hend
      go_wp2_with fail
      go_roundg f
      case measure => omega
      case rel =>
        refine ⟨k + 1, by simp, by omega, (HS.out.set hend (!lk) sbne (by omega) aw).cong fun i hi => ?_⟩
        by_cases e : i = k
        · subst e; rw [updB_same, HL.out]; simp
        · rw [updB_other _ _ e]
          have : decide (i < k) = decide (i < k + 1) := by
            by_cases h : i < k
            · simp [h]; omega
            · have : ¬ i < k + 1 := by omega
              simp [h, this]
          rw [this]
    · have hend' : ¬ (k : Int) < n := by omega
      have hT : Sst w w.heap.size (ab + 1) ab lb lo mb mo n lc mc (fun i => !lost i) wr := HS.out.cong fun i hi => by rw [decide_eq_true (show i < k by omega)]; rfl
      have HT : Aside (Sst w w.heap.size (ab + 1) ab lb lo mb mo n lc mc (fun i => !lost i) wr) := hT
      clear hT HS HS0
      go_wp2_with fail
      go_step3
      go_wp2_with fail
      go_loopg [] (cnt n (fun i => !lost i) + 1) (fun f wr => ∃ s : Nat → Bool, cnt n s + 1 = f ∧ Sst w w.heap.size (ab + 1) ab lb lo mb mo n lc mc s wr ∧ Mid n lost len mv s)
      case atStart => exact ⟨_, rfl, HT.out, Mid.start⟩
      case round =>
        clear HT d0 d1
        obtain ⟨s, hf, hS, hM⟩ := hrel
        have HS : Aside (Sst w w.heap.size (ab + 1) ab lb lo mb mo n lc mc s wr) := hS
        have HM : Aside (Mid n lost len mv s) := hM
        subst hf
        have cs := hS.sc
        clear hS hM
        go_wp2_with fail
        clear cs
        go_loopg [32] n (fun f v wx => ∃ k : Nat, v = .int .i64 k ∧ k + f = n ∧ Sst w w.heap.size (ab + 1) ab lb lo mb mo n lc mc s wx ∧ ∀ i, i < k → s i = true → ∃ q, q < len i ∧ s (mv i q).toNat = true)
        case atStart => exact ⟨0, rfl, by omega, HS.out, fun i hi => absurd hi (by omega)⟩
        case round =>
          obtain ⟨k, rfl, hk, hS, hX⟩ := hrel
          clear HS
          have HS : Aside (Sst w w.heap.size (ab + 1) ab lb lo mb mo n lc mc s wr) := hS
          have HX : Aside (∀ i, i < k → s i = true → ∃ q, q < len i ∧ s (mv i q).toNat = true) := hX
          clear hS hX
          by_cases hend : k < n
          · have hend' : (k : Int) < n := by omega
            have cs := HS.out.sc
            have cr := HS.out.row k hend
            have cf := HS.out.fz k hend
            have d1 := HS.out.c1
            have BW := HB.out.below HS.out.old
            have cm := BW.moves k hend
            have l2 := HV.out.l2 k hend
            obtain ⟨L, hL⟩ : ∃ z, z = len k := ⟨_, rfl⟩
            have HL : Aside (L = len k) := hL
            have HW : Aside (BIs wr lb lo mb mo n lost P O C len mv) := BW
            rw [← hL] at cm l2
            clear hL BW
            obtain ⟨x, hx⟩ : ∃ x, x = s k := ⟨_, rfl⟩
            have HXk : Aside (x = s k) := hx
            rw [← hx] at cr
            clear hx
            obtain ⟨f, rfl⟩ : ∃ f, gk = f + 1 := ⟨gk - 1, by omega⟩
            cases x
            · go_wp2_with fail
              go_roundg f
              case measure => omega
              case rel =>
                refine ⟨k + 1, by simp, by omega, HS.out, fun i hi hs => ?_⟩
                rcases Nat.lt_succ_iff_lt_or_eq.1 hi with h | h
                · exact HX.out i h hs
                · subst h; rw [← HXk.out] at hs; cases hs
            · go_wp2_with fail
              refine (containsFunc_any 30 HE.out (.pointer (some ⟨ab + 1, 0, none⟩)) (fun j => s (mv k j).toNat) (P k) (O k) L (C k) (mv k) wr (by omega) (fun j hj => HW.out.mv k j hend (by rw [← HL.out]; exact hj)) (fun j hj w2 hb2 => safe1_int (ab + 1) ab n n s (mv k j) (HV.out.m0 k j hend (by rw [← HL.out]; exact hj)) (HV.out.m1 k j hend (by rw [← HL.out]; exact hj)) w2 (HS.out.next hb2).sc (HS.out.next hb2).row)).mono ?_
              rintro e w3 ⟨r, rfl, hb3, hr⟩
              have HR : Aside (r = true ↔ ∃ j, j < L ∧ s (mv k j).toNat = true) := hr
              have HS3 : Aside (Sst w w.heap.size (ab + 1) ab lb lo mb mo n lc mc s w3) := HS.out.next hb3
              clear hr hb3 cs cr cf d1
              have cs := HS3.out.sc
              have cr := HS3.out.row k hend
              have cf := HS3.out.fz k hend
              cases r
              · go_wp2_with fail
                go_roundg (cnt n (updB s k false) + 1)
                case measure => have := cnt_upd s k HXk.out.symm n hend; omega
                case rel =>
                  refine ⟨_, rfl, HS3.out.set hend false sbne (by omega) aw, HM.out.next HV.out hend fun q hq => ?_⟩
                  cases e : s (mv k q).toNat
                  · rfl
                  · exact absurd (HR.out.2 ⟨q, by rw [HL.out]; exact hq, e⟩) (by simp)
              · go_wp2_with fail
                go_roundg f
                case measure => omega
                case rel =>
                  refine ⟨k + 1, by simp, by omega, HS3.out, fun i hi hs => ?_⟩
                  rcases Nat.lt_succ_iff_lt_or_eq.1 hi with h | h
                  · exact HX.out i h hs
                  · subst h
                    obtain ⟨j, hj, hx⟩ := HR.out.1 (by simp)
                    exact ⟨j, by rw [← HL.out]; exact hj, hx⟩
          · have hend' : ¬ (k : Int) < n := by omega
            have cs := HS.out.sc
            go_wp2_with fail
            go_ret
            exact ⟨ab, s, rfl, HS.out.row, aw, HS.out.old, HM.out.done fun i hi hs => HX.out i (by omega) hs⟩
end Go.Proofs.Ytgohbjlfgiohiaa
