/-
  What the run of closed code says of the machine: calls; the theorem. No program.
-/
import Derived.Test.YtohpjhplofimjaaZw
import Derived.Below
set_option linter.unusedSimpArgs false
set_option linter.unusedVariables false
set_option linter.unusedSectionVars false
namespace Go.Rx
open Go
variable {P : Program}

theorem kill_dfr {R : Ren} {H : Hp} {w : World} {d b c nx : Nat} (hR : Rel R H w) (hg : H.get d = some .dfr) (hr : R d = some (b, c)) (hlt : d < nx) :
    (Instr.takeDeferred b).run P w = .ok [] (w.putObj b (.deferred none)) ∧ Ext R R nx nx [d] w (w.putObj b (.deferred none)) ∧ Rel R (H.set d none) (w.putObj b (.deferred none)) := by
  obtain ⟨b', c', hr', hh⟩ := hR.at_ d _ hg
  rw [hr] at hr'; cases hr'
  obtain ⟨e1, e2, _⟩ := putObj_facts w b (.deferred none)
  have hk := kill_ok hR hg hr
  refine ⟨run_takeDeferred hh, ⟨Le.refl R, fun _ _ => rfl, by omega, fun b' hb hn => e2 b' fun e => hn d (by simp) hlt c (by rw [e]; exact hr), fun id b' c' h1 h2 _ => by omega, ⟨rfl, rfl, rfl⟩⟩, ⟨fun id o ho => ?_, fun id id' o o' b' c1 c2 h1 h2 r1 r2 => ?_⟩⟩
  · obtain ⟨ho', hne⟩ := hk id o ho
    obtain ⟨b', c', hr2, hh2⟩ := hR.at_ id o ho'
    exact ⟨b', c', hr2, hh2.kept (e2 b' fun e => hne b' c' hr2 (by rw [e]))⟩
  · exact hR.inj id id' o o' b' c1 c2 (hk id o h1).1 (hk id' o' h2).1 r1 r2
/-- The marks are taken off, one after the other. -/
theorem unmark_ok {R : Ren} {n : Nat} {fn : Func} {tm : Array Value} {Post : Ending → World → Prop} {nx : Nat} : ∀ {df : List Nat} {H H' : Hp} {ds : List Deferred} {w : World}, unmark nx H df = some H' → DR R df ds → Rel R H w →
    (∀ w', Ext R R nx nx df w w' → Rel R H' w' → ∃ v, (results fn tm).run P w' = .ok v w' ∧ Post (.returned v) w') → LeavesInM (Fw none) n P fn tm Post ds .returning w
  | [], H, H', ds, w, h, hd, hR, hQ => by
    simp [unmark] at h; subst h
    rw [show ds = [] from hd]
    exact hQ w (Ext.refl R _ _ w) hR
  | d :: df, H, H', ds, w, h, hd, hR, hQ => by
    obtain ⟨b, c, rest, hr, rfl, hd'⟩ := hd
    simp only [unmark] at h
    cases hg : H.get d with
    | none => simp [hg] at h
    | some o =>
      cases o <;> simp only [hg] at h <;> try cases h
      cases hb : Nat.blt d nx
      · simp [hb] at h
      · simp only [hb, cond_true, Tr.force_eq] at h
        obtain ⟨h1, h2, h3⟩ := kill_dfr (P := P) hR hg hr (show d < nx by simpa using hb)
        refine ⟨by simp, .inl ⟨b, _, rfl, h1, ?_⟩⟩
        refine unmark_ok h hd' h3 fun w' hx hm => hQ w' ?_ hm
        exact (h2.wider fun id hi => by simp at hi; simp [hi]).trans (hx.wider fun id hi => by simp [hi]) (Nat.le_refl _) (Nat.le_refl _)
theorem call_f {L : Nat} {call : CallT} (hmix : P.follows .mixedOrders = true) (hname : ∀ (g : Nat) (fn : Func) (c : Code), P.funcs[g]? = some fn → fn.body = some c → (fn.name == "runtime.NumGoroutine") = false) (hcall : CallOK P call)
    {g : FuncId} {args : List LV} {H : Hp} {nx : Nat} {r : Res} (h : evStep P L call (.f g) args H nx = some r) {R : Ren} {w : World} {vs : List Value} (hR : Rel R H w) (hv : VRL R args vs) (hf : Free R nx r.mx) :
    Runs P (.f g) R vs.toArray w fun e w' => ∃ v, e = .returned v ∧ Did R nx r.o w w' v := by
  simp only [evStep] at h
  cases hfn : P.funcs[g]? with
  | none => simp [hfn] at h
  | some fn =>
    simp only [hfn] at h
    cases hb : fn.body with
    | none => simp [hb] at h
    | some c =>
      simp only [hb, Tr.force_eq, nN_eq] at h
      have hkey : ∃ e T N H1 nx1 wr1 df1 mx1 H2 vs', (e = .normal ∨ e = .ret) ∧ evC P call none L c ⟨ofArgs 0 args .l, args.length + (fn.ntmps - args.length), H, nx, [], [], nx⟩ = some (e, ⟨T, N, H1, nx1, wr1, df1, mx1⟩) ∧
          unmark nx1 H1 df1 = some H2 ∧ evRes P T H2 fn.results.toList = some vs' ∧ nx ≤ nx1 ∧ r = ⟨gc nx H (lOf vs') H2 nx1 (addW df1 wr1), mx1⟩ := by
        cases hc : evC P call none L c ⟨ofArgs 0 args .l, args.length + (fn.ntmps - args.length), H, nx, [], [], nx⟩ with
        | none => simp [hc] at h
        | some q =>
          obtain ⟨e, T, N, H1, nx1, wr1, df1, mx1⟩ := q
          have fin : (match unmark nx1 H1 df1 with | some H' => (match evRes P T H' fn.results.toList with | some vs => bif Nat.ble nx nx1 then some (⟨gc nx H (lOf vs) H' nx1 (addW df1 wr1), mx1⟩ : Res) else none | none => none) | none => none) = some r → ∃ H2 vs', unmark nx1 H1 df1 = some H2 ∧ evRes P T H2 fn.results.toList = some vs' ∧ nx ≤ nx1 ∧ r = ⟨gc nx H (lOf vs') H2 nx1 (addW df1 wr1), mx1⟩ := fun h => by
            cases hu : unmark nx1 H1 df1 with
            | none => simp [hu] at h
            | some H2 =>
              simp only [hu] at h
              cases hr : evRes P T H2 fn.results.toList with
              | none => simp [hr] at h
              | some vs' =>
                simp only [hr] at h
                cases hle : Nat.ble nx nx1
                · simp [hle] at h
                · simp [hle] at h
                  exact ⟨H2, vs', rfl, hr, by simpa using hle, h.symm⟩
          cases e <;> simp only [hc] at h <;> try cases h
          · obtain ⟨H2, vs', k1, k2, k3, k4⟩ := fin h
            exact ⟨.normal, T, N, H1, nx1, wr1, df1, mx1, H2, vs', .inl rfl, rfl, k1, k2, k3, k4⟩
          · obtain ⟨H2, vs', k1, k2, k3, k4⟩ := fin h
            exact ⟨.ret, T, N, H1, nx1, wr1, df1, mx1, H2, vs', .inr rfl, rfl, k1, k2, k3, k4⟩
      obtain ⟨e, T, N, H1, nx1, wr1, df1, mx1, H2, vs', he, hc, hu, hres, hle, rfl⟩ := hkey
      refine ⟨fun args w => ?_, fun m => ?_⟩
      · have hn := hname g fn c hfn hb
        unfold callFunc
        simp only [Sem.run_bind, run_program, Result.andThen_ok, hfn, hn, hb]
        simp
      · refine callsIn_of_wp_marks hfn hb trivial ?_ rfl
        have hend : ∀ R' a' w', Ext R R' nx nx1 wr1 w w' → St R' ⟨T, N, H1, nx1, wr1, df1, mx1⟩ a' w' →
            LeavesInM (Fw none) m P fn a'.tmps (fun e w' => ∃ v, e = .returned v ∧ Did R nx (gc nx H (lOf vs') H2 nx1 (addW df1 wr1)) w w' v) a'.defers .returning w' := fun R' a' w' hx hs' => by
          refine unmark_ok hu hs'.D hs'.M fun w2 hx2 hm2 => ?_
          obtain ⟨v, hv, hrun⟩ := run_results (P := P) hs'.F hm2 hres
          exact ⟨v, hrun, v, rfl, gc_ok hR ((hx.wider fun id hi => mem_addW.2 (.inr hi)).trans (hx2.wider fun id hi => mem_addW.2 (.inl hi)) hle (Nat.le_refl _)) hm2 hv⟩
        have hst : St R ⟨ofArgs 0 args .l, args.length + (fn.ntmps - args.length), H, nx, [], [], nx⟩ { tmps := vs.toArray ++ Array.replicate (fn.ntmps - vs.toArray.size) undef, defers := [] } w := ⟨fr_args hv, hR, rfl⟩
        refine evC_ok hcall hmix hc hst rfl hf _ fun R' a' w' hx hs' => ?_
        rcases he with rfl | rfl
        · exact hend R' a' w' hx hs'
        · exact hend R' a' w' hx hs'
theorem round_post {b : Nat} {Post : Ending → World → Prop} {e : Ex} {a : Act} {w : World} (h : ∃ v w', (Instr.endRound b e.code).run P w = .ok v w' ∧ Post (.returned v) w') : roundPost P b Post e.ex a w := by
  cases e <;> exact h
theorem call_r {L : Nat} {call : CallT} (hmix : P.follows .mixedOrders = true) (hcall : CallOK P call)
    {id : Nat} {args : List LV} {H : Hp} {nx : Nat} {r : Res} (h : evStep P L call (.r id) args H nx = some r) {R : Ren} {w : World} {vs : List Value} (hR : Rel R H w) (hv : VRL R args vs) (hf : Free R nx r.mx) :
    Runs P (.r id) R vs.toArray w fun e w' => ∃ v, e = .returned v ∧ Did R nx r.o w w' v := by
  intro b c hr
  simp only [evStep] at h
  split at h
  · rename_i pend N T ps as body0 d0 hg
    cases hb : (Nat.beq ps.size args.length && allLt N ps.toList && Nat.blt id nx)
    · simp [hb] at h
    · simp only [hb, cond_true] at h
      simp only [Bool.and_eq_true, beq_iff] at hb
      obtain ⟨⟨hsz, hlt⟩, hidn⟩ := hb
      have hidn : id < nx := by simpa using hidn
      split at h
      · rename_i T₁ N₁ H₁ nx₁ wr₁ df₁ mx₁ hc1
        split at h
        · rename_i pend1 N1 T1 ps1 as1 body1 d1 hg1
          simp only [Tr.force_eq] at h
          split at h
          · rename_i e T₂ N₂ H₂ nx₂ wr₂ df₂ mx₂ hc2
            split at h
            · rename_i pend2 N2 T2 ps2 as2 body2 d2 hg2
              cases hle : Nat.ble nx nx₂
              · simp [hle] at h
              · simp only [hle, cond_true, Option.some.injEq] at h
                subst h
                have hle : nx ≤ nx₂ := by simpa using hle
                have hu1 := evC_up hc1
                have hu2 := evC_up hc2
                have hn1 : nx ≤ nx₁ := hu1.nx
                have hn2 : nx₁ ≤ nx₂ := hu2.nx
                have hm12 : mx₁ ≤ mx₂ := hu2.mx
                have hf : Free R nx mx₂ := hf
                obtain ⟨b', c', hr', fn, tm, db, dc, hbk, hdd, hFT⟩ := hR.at_ id _ hg
                rw [hr] at hr'; cases hr'
                have hvl := hv.length
                refine ⟨fn, _, as, body0, run_yield hbk (by simp [hvl, hsz]), fun m => ?_⟩
                refine roundIn_of_wpIn trivial ?_
                have hfold : (ps.zip vs.toArray).foldl (fun tmps (x : Tmp × Value) => tmps.setIfInBounds x.1 x.2) tm = (ps.toList.zip vs).foldl (fun tmps (x : Tmp × Value) => tmps.setIfInBounds x.1 x.2) tm := by
                  rw [← Array.foldl_toList, Array.toList_zip]
                have hFp := fr_puts hFT hlt hv
                rw [← hfold] at hFp
                have hst0 : St R ⟨putArgs ps.toList args T, N, H, nx, [], [], nx⟩ { tmps := (ps.zip vs.toArray).foldl (fun tmps (x : Tmp × Value) => tmps.setIfInBounds x.1 x.2) tm, defers := [] } w := ⟨hFp, hR, rfl⟩
                refine evC_ok (rb := some b) hcall hmix hc1 hst0 ⟨b, c, rfl, hr⟩ (hf.less hm12) _ ?_
                intro R1 a1 w1 hx1 hs1
                have hr1 : R1 id = some (b, c) := hx1.le _ _ hr
                obtain ⟨rec1, hb1, hst1, hpe1, hdid1⟩ := did_turn (lv := .b true) (v := .bool true) (st' := .busy) (pend' := pend1) hs1.M hg1 hr1 (show id < nx₁ by omega) rfl
                obtain ⟨R2, hx2, hm2⟩ := hdid1.lv
                have e1 : w1.putObj b (.loop { rec1 with state := .busy, pending := pend1 }) = w1.putObj b (.loop { rec1 with state := .busy }) := by rw [← hpe1]
                rw [e1] at hx2 hm2
                refine ⟨_, run_beginRound hb1 hst1, ?_⟩
                have hfree2 : Free R2 nx₁ mx₂ := (hf.after hx1 hn1).after hx2 (Nat.le_refl _)
                refine evC_ok (rb := some b) hcall hmix hc2 ⟨hs1.F.mono hx2.le, hm2, hs1.D.mono hx2.le⟩ ⟨b, c, rfl, hx2.le _ _ hr1⟩ hfree2 _ ?_
                intro R3 a3 w3 hx3 hs3
                have hr3 : R3 id = some (b, c) := hx3.le _ _ (hx2.le _ _ hr1)
                refine round_post ?_
                obtain ⟨rec3, hb3, hst3, hpe3, hdid3⟩ := did_turn (lv := .b true) (v := .bool true) (st' := e.st) (pend' := e.code) hs3.M hg2 hr3 (show id < nx₂ by omega) rfl
                obtain ⟨R4, hx4, hm4⟩ := hdid3.lv
                have hend := run_endRound (P := P) e.code hb3
                have e2 : (if e.code.isNone = true then LoopState.ready else LoopState.done) = e.st := by cases e <;> rfl
                rw [e2] at hend
                refine ⟨_, _, hend, _, rfl, gc_ok hR (R' := R4) ?_ hm4 ?_⟩
                · have m1 : ∀ i ∈ wr₁, i ∈ addW [id] wr₂ := fun i hi => mem_addW.2 (.inr (hu2.wr i (mem_addW.2 (.inr hi))))
                  have m2 : ∀ i ∈ [id], i ∈ addW [id] wr₂ := fun i hi => mem_addW.2 (.inl hi)
                  have m3 : ∀ i ∈ wr₂, i ∈ addW [id] wr₂ := fun i hi => mem_addW.2 (.inr hi)
                  exact (((hx1.wider m1).trans (hx2.wider m2) hn1 (Nat.le_refl _)).trans (hx3.wider m3) hn1 hn2).trans (hx4.wider m2) hle (Nat.le_refl _)
                · cases e <;> rfl
            · cases h
          · cases h
        · cases h
      · cases h
  · cases h
/-- **The run of a call says what the call does.** -/
theorem step_ok {L : Nat} {call : CallT} (hmix : P.follows .mixedOrders = true) (hname : ∀ (g : Nat) (fn : Func) (c : Code), P.funcs[g]? = some fn → fn.body = some c → (fn.name == "runtime.NumGoroutine") = false) (hcall : CallOK P call) : CallOK P (evStep P L call) := fun tg args H nx r h R w vs hR hv hf => by
  cases tg with
  | f g => exact call_f hmix hname hcall h hR hv hf
  | r id => exact call_r hmix hcall h hR hv hf
theorem evCall_ok {L : Nat} (hmix : P.follows .mixedOrders = true) (hname : ∀ (g : Nat) (fn : Func) (c : Code), P.funcs[g]? = some fn → fn.body = some c → (fn.name == "runtime.NumGoroutine") = false) : ∀ n, CallOK P (evCall P L n)
  | 0 => fun tg args H nx r h => by cases h
  | n + 1 => step_ok hmix hname (evCall_ok hmix hname n)
theorem same1_eq {x y : LV} (h : same1 x y = true) : x = y := by
  cases x <;> cases y <;> simp [same1] at h
  · rename_i a b; cases a <;> cases b <;> simp_all
  · obtain ⟨rfl, rfl⟩ := h; rfl
theorem sameL_eq : ∀ {l r : List LV}, sameL l r = true → l = r
  | [], [], _ => rfl
  | x :: l, y :: r, h => by
    simp [sameL] at h
    rw [same1_eq h.1, sameL_eq h.2]
  | [], _ :: _, h => by simp [sameL] at h
  | _ :: _, [], h => by simp [sameL] at h
theorem same_eq {x y : LV} (h : same x y = true) : x = y := by
  unfold same at h
  split at h
  · rw [sameL_eq h]
  · rw [sameL_eq h]
  · exact same1_eq h
/-- What is told of the known calls. -/
def TabOK (P : Program) (tab : Tab) : Prop := ∀ x ∈ tab, ∀ y ∈ x.2, ∀ (R : Ren) (w : World) (vs : List Value), VRL R y.1 vs → Runs P (.f x.1) R vs.toArray w fun e w' => ∃ u, e = .returned u ∧ VR R y.2 u ∧ Go.RowKit.Below w.heap.size w w'
theorem lookIn_mem {as : List LV} {v : LV} : ∀ {t : List (List LV × LV)}, lookIn as t = some v → (as, v) ∈ t
  | [], h => by cases h
  | (as', v') :: t, h => by
    simp only [lookIn] at h
    cases hc : sameL as as'
    · simp only [hc, cond_false] at h
      exact List.mem_cons_of_mem _ (lookIn_mem h)
    · simp only [hc, cond_true, Option.some.injEq] at h
      rw [sameL_eq hc, h]
      exact List.mem_cons_self
theorem look_mem {g : FuncId} {as : List LV} {v : LV} : ∀ {t : Tab}, look g as t = some v → ∃ l, (g, l) ∈ t ∧ (as, v) ∈ l
  | [], h => by cases h
  | (g', l) :: t, h => by
    simp only [look] at h
    cases hc : Nat.beq g g'
    · simp only [hc, cond_false] at h
      obtain ⟨l', h1, h2⟩ := look_mem h
      exact ⟨l', List.mem_cons_of_mem _ h1, h2⟩
    · simp only [hc, cond_true] at h
      rw [Nat.eq_of_beq_eq_true hc]
      exact ⟨l, List.mem_cons_self, lookIn_mem h⟩
theorem known_ok {tab : Tab} {call : CallT} (ht : TabOK P tab) (hcall : CallOK P call) : CallOK P (known tab call) := fun tg args H nx r h R w vs hR hv hf => by
  cases tg with
  | r id => exact hcall _ args H nx r h R w vs hR hv hf
  | f g =>
    simp only [known] at h
    cases hl : look g args tab with
    | none => simp only [hl] at h; exact hcall _ args H nx r h R w vs hR hv hf
    | some v =>
      simp only [hl, Option.some.injEq] at h; subst h
      obtain ⟨l, m1, m2⟩ := look_mem hl
      obtain ⟨h1, h2⟩ := ht _ m1 _ m2 R w vs hv
      refine ⟨h1, fun n => (h2 n).mono ?_⟩
      rintro e w' ⟨u, rfl, hu, bel⟩
      exact ⟨u, rfl, R, ⟨Le.refl R, fun _ _ => rfl, bel.size, fun b hb _ => bel.block b hb, fun _ _ _ h1 h2 _ => by dsimp only at h2; omega, ⟨bel.os, bel.tape, bel.output⟩⟩,
        ⟨fun id o ho => let ⟨b, c, hr, hh⟩ := hR.at_ id o ho; ⟨b, c, hr, hh.kept (bel.block b hh.lt)⟩, hR.inj⟩, hu⟩
/-- The run of g on these arguments, in an empty memory, gives v. -/
noncomputable def yields (P : Program) (L : Nat) (tab : Tab) (n : Nat) (g : FuncId) (as : List LV) (v : LV) : Bool :=
  LV.ltL 0 as && v.lt 0 && match evKnown P L tab n (.f g) as .l 0 with | some ⟨⟨u, _, _, _⟩, _⟩ => same u v | none => false
section
variable {L : Nat} {tab : Tab} (hmix : P.follows .mixedOrders = true) (hname : ∀ (g : Nat) (fn : Func) (c : Code), P.funcs[g]? = some fn → fn.body = some c → (fn.name == "runtime.NumGoroutine") = false) (ht : TabOK P tab)
include hmix hname ht
theorem evKnown_ok : ∀ n, CallOK P (evKnown P L tab n)
  | 0 => fun tg args H nx r h => by cases h
  | n + 1 => step_ok hmix hname (known_ok ht (evKnown_ok n))
/-- A call with arguments that bear no names, whose run gives a number or a truth value, does so in every world, and leaves what was there. -/
theorem one_known {n g : Nat} {as : List LV} {v : LV} (h : yields P L tab n g as v = true) (R : Ren) (w : World) (vs : List Value) (hv : VRL R as vs) :
    Runs P (.f g) R vs.toArray w fun e w' => ∃ u, e = .returned u ∧ VR R v u ∧ Go.RowKit.Below w.heap.size w w' := by
  simp only [yields, Bool.and_eq_true] at h
  obtain ⟨⟨hl, hw⟩, h⟩ := h
  split at h
  · rename_i u H nx wr mx hc
    have hlow : Agree 0 (fun _ => none) R := fun id hid => absurd hid (Nat.not_lt_zero _)
    have hrel : Rel (fun _ => none) .l w := ⟨fun id o ho => by simp [Tr.get_l] at ho, fun id id' o o' b c c' h1 => by simp [Tr.get_l] at h1⟩
    obtain ⟨h1, h2⟩ := evKnown_ok (L := L) hmix hname ht n (.f g) as .l 0 _ hc (fun _ => none) w vs hrel (hv.low hlow hl) (fun _ _ _ => rfl)
    refine ⟨h1, fun n => (h2 n).mono ?_⟩
    rintro e w' ⟨x, rfl, R', hx, _, hu⟩
    have he := same_eq h; subst he
    refine ⟨x, rfl, VR.mono (R := fun _ => none) (R' := R) (fun id x h => absurd h (by simp)) (VR.low (n := 0) (R := fun _ => none) (R' := R') (fun id hid => absurd hid (Nat.not_lt_zero _)) hw hu), hx.quiet.os, hx.quiet.tape, hx.quiet.output, hx.size, fun b hb => hx.keep b hb fun id _ hlt => absurd hlt (Nat.not_lt_zero _)⟩
  · cases h
theorem tab_one {n g : Nat} {as : List LV} {v : LV} (h : yields P L tab n g as v = true) : TabOK P ((g, [(as, v)]) :: tab) := fun x hx y hy => by
  rcases List.mem_cons.1 hx with rfl | hx
  · rw [List.mem_singleton.1 hy]
    exact one_known hmix hname ht h
  · exact ht x hx y hy
/-- A function without arguments whose run returns true, returns true, and leaves what was there. -/
theorem closed_known {n g : Nat} (h : yields P L tab n g [] (.b true) = true) (w : World) :
    Calls P g #[] w fun e w' => e = .returned (.bool true) ∧ Go.RowKit.Below w.heap.size w w' := by
  have := (one_known (L := L) (n := n) (g := g) (as := []) (v := .b true) hmix hname ht h (fun _ => none) w [] rfl).2
  have := (callsIn_wide (n := 0)).1 (show CallsIn Fence.wide 0 P g #[] w _ from this 0)
  refine this.mono ?_
  rintro e w' ⟨u, rfl, hu, bel⟩
  rw [show u = .bool true from hu]
  exact ⟨rfl, bel⟩
end
/-- One more call of the function that comes first. -/
theorem tab_more {L : Nat} {tab : Tab} (hmix : P.follows .mixedOrders = true) (hname : ∀ (g : Nat) (fn : Func) (c : Code), P.funcs[g]? = some fn → fn.body = some c → (fn.name == "runtime.NumGoroutine") = false) {n g : Nat} {l : List (List LV × LV)} (ht : TabOK P ((g, l) :: tab))
    {as : List LV} {v : LV} (h : yields P L ((g, l) :: tab) n g as v = true) : TabOK P ((g, (as, v) :: l) :: tab) := fun x hx y hy => by
  rcases List.mem_cons.1 hx with rfl | hx
  · rcases List.mem_cons.1 hy with rfl | hy
    · exact one_known hmix hname ht h
    · exact ht _ List.mem_cons_self y hy
  · exact ht x (List.mem_cons_of_mem _ hx) y hy
theorem tab_none : TabOK P [] := fun x hx => by cases hx
end Go.Rx
