/- EarthLines returns true for every line and every two limits: the program's word on a line is the reference's; and the examples hold. No condition. -/
import Derived.Test.YtgaibpnlnkeclaaEa
import Derived.Test.YtgaibpnlnkeclaaKx
import Derived.Test.YtgaibpnlnkeclaaKr
import Derived.BigRegion
import Derived.Deep.RegionHeld3
import Derived.Deep.DeepCutAuto
import Derived.Deep.RegionWith
namespace Go.Proofs.Ytgaibpnlnkeclaa
open Go.ChangeShapes Go.WideShapes Go.ChangeAt Go.RowKit

theorem quiet_all {P : Program} {id : Nat} {Q : Exit → Act → World → Prop} {a : Act} {w : World} {l : List Oper} (C : World → Prop) (hm : P.follows .mixedOrders = true) (hB : Region.lexB .any l.toArray = true) (hC : C w.drew)
    (h : wpQuiet P l.toArray C (fun a' => ∀ w', C w' → Q .normal a' w') l a) : (Code.region id l.toArray true).wp P Q a w :=
  wp_region_quiet (C := C) hm hB hC (by simpa using h)
set_option maxRecDepth 100000 in
theorem awake_run : Go.Rx.yields Try.prog 100000 [] 60 16 [] (.b true) = true := by decide +kernel
theorem awake_any (w : World) : Calls Try.prog 16 #[] w fun e w' => e = .returned (.bool true) ∧ Below w.heap.size w w' :=
  Go.Rx.closed_known mixes named Go.Rx.tab_none awake_run w

theorem short_any (ka : Option Addr) (n kc : Nat) (w : World) : Calls Try.prog 15 #[.agg #[.slice ka n kc]] w fun e w' => e = .returned (.bool (decide ((n : Int) ≤ 26))) ∧ Below w.heap.size w w' := by
  go_enter Try.func15, Try.ntmps15
  go_wp2_with fail
  go_ret
  exact ⟨rfl, by go_grown⟩
set_option maxRecDepth 100000 in
set_option maxHeartbeats 2000000 in
theorem lines_any (ka : Option Addr) (n kc : Nat) (S : Nat → Nat → Int) (t v : Int) (w : World) (hn : n ≤ 9223372036854775807) (hK : IsK w ka n S) :
    Calls Try.prog 3 #[.agg #[.slice ka n kc], .int .i64 t, .int .i64 v] w fun e w' => e = .returned (.bool true) ∧ Below w.heap.size w w' := by
  cases hs : decide ((n : Int) ≤ 26)
  · have hs' : ¬ ((n : Int) ≤ 26) := of_decide_eq_false hs
    go_enter Try.func3, Try.ntmps3
    go_wp2_with (first
      | (go_at_call 15; refine (short_any ka n kc _).mono ?_; rintro e w2 ⟨rfl, hb2⟩; rw [hs])
      | (go_at_call 16; refine (awake_any _).mono ?_; rintro e w3 ⟨rfl, hb3⟩))
    go_ret
    exact ⟨rfl, below_next (below_next (by go_grown) hb2) hb3⟩
  · have hs' : (n : Int) ≤ 26 := of_decide_eq_true hs
    go_enter Try.func3, Try.ntmps3
    go_upto_region 3 with (go_at_call 15; refine (short_any ka n kc _).mono ?_; rintro e w2 ⟨rfl, hb2⟩; rw [hs])
    have c0 : w2.cell? ⟨w.heap.size, 0, none⟩ = some (.slice ka n kc) := cell_below hb2 (by simp only [World.cell?]; rw [heap_alloc_new]; rfl)
    have q0 := checkLine_any ka n kc S t v
    have q1 := rcheckLine_any ka n kc S t v
    refine quiet_all (fun w' => Below w2.heap.size w2 w') (by kernel_rfl) (by kernel_rfl) (Below.refl _ _).drew ?_
    repeat (first
      | go_big_quiet_skip
      | (go_big_quiet_want; go_big_quiet_op; go_big_quiet_on)
      | (go_big_quiet_want; apply Exists.intro; refine ⟨fun w' hC => ?_, ?_⟩; (have c1 := cell_below hC c0; have hB : Below w.heap.size w w2 := below_next (by go_grown) hb2; have K1 := (hK.below hB).below hC; go_simp; first | rfl | exact ⟨rfl, hC⟩ | (go_at_call 17; exact (q0 w' hn K1).mono fun e w'' ⟨he, hb'⟩ => ⟨he, below_next hC hb'⟩) | (go_at_call 18; exact (q1 w' hn K1).mono fun e w'' ⟨he, hb'⟩ => ⟨he, below_next hC hb'⟩) | (go_at_call 16; exact (awake_any w').mono fun e w'' ⟨he, hb'⟩ => ⟨he, below_next hC hb'⟩)); (try simp only [Act.put, List.setIfInBounds_toArray, List.set_cons_zero, List.set_cons_succ]); go_big_quiet_on))
    refine wpQuiet_nil ?_
    intro w8 hC8
    go_wp2_with fail
    go_ret
    exact ⟨rfl, below_next (below_next (by go_grown) hb2) hC8⟩
end Go.Proofs.Ytgaibpnlnkeclaa
