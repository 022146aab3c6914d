/- The contract of the program's Way at a valid blow-out. -/
import Derived.Test.YtgohbjlfgiohiaaHn
import Derived.Test.YtgohbjlfgiohiaaHg
import Derived.Laws.Rows
namespace Go.Proofs.Ytgohbjlfgiohiaa
open Go.RowKit

/-- The first place from k on at which p holds, at most f further on. -/
def ftGo (p : Nat → Bool) : Nat → Nat → Nat
  | k, 0 => k
  | k, f + 1 => if p k then k else ftGo p (k + 1) f
theorem ftGo_at {p : Nat → Bool} {q : Nat} (hq : p q = true) (h : ∀ j, j < q → p j = false) : ∀ f k, k ≤ q → q < k + f → ftGo p k f = q
  | 0, k, h1, h2 => by omega
  | f + 1, k, h1, h2 => by
    unfold ftGo
    by_cases e : k = q
    · subst e; rw [if_pos hq]
    · rw [h k (by omega)]
      exact ftGo_at hq h f (k + 1) (by omega) (by omega)
/-- The state to which a safe state is left. -/
def nxt (s : Nat → Bool) (len : Nat → Nat) (mv : Nat → Nat → Int) (i : Nat) : Nat := (mv i (ftGo (fun q => s (mv i q).toNat) 0 (len i))).toNat
def pth (s : Nat → Bool) (len : Nat → Nat) (mv : Nat → Nat → Int) (st : Nat) : Nat → Nat
  | 0 => st
  | k + 1 => nxt s len mv (pth s len mv st k)
def pthI (s : Nat → Bool) (len : Nat → Nat) (mv : Nat → Nat → Int) (st k : Nat) : Int := (pth s len mv st k : Int)
theorem nxt_ok {n : Nat} {lost s : Nat → Bool} {len : Nat → Nat} {mv : Nat → Nat → Int} (hv : Okb n len mv) (hs : IsSafe n lost len mv s) {i : Nat} (hi : i < n) (h : s i = true) :
    ∃ q, q < len i ∧ ftGo (fun q => s (mv i q).toNat) 0 (len i) = q ∧ mv i q = (nxt s len mv i : Int) ∧ nxt s len mv i < n ∧ s (nxt s len mv i) = true := by
  obtain ⟨-, q, hq, hx⟩ := hs.post i hi h
  obtain ⟨q0, h0, h1, h2⟩ : ∃ q0, q0 ≤ q ∧ s (mv i q0).toNat = true ∧ ∀ j, j < q0 → s (mv i j).toNat = false := by
    have key : ∀ m, m ≤ q → (∃ q0, q0 ≤ q ∧ s (mv i q0).toNat = true ∧ ∀ j, j < q0 → s (mv i j).toNat = false) ∨ ∀ j, j < m → s (mv i j).toNat = false := by
      intro m
      induction m with
      | zero => exact fun _ => .inr fun j hj => absurd hj (by omega)
      | succ m ih =>
        intro hm
        rcases ih (by omega) with h | h
        · exact .inl h
        · cases e : s (mv i m).toNat
          · exact .inr fun j hj => by rcases Nat.lt_succ_iff_lt_or_eq.1 hj with h' | h'; exact h j h'; subst h'; exact e
          · exact .inl ⟨m, by omega, e, h⟩
    rcases key q (Nat.le_refl _) with h | h
    · exact h
    · exact ⟨q, Nat.le_refl _, hx, h⟩
  have e : ftGo (fun q => s (mv i q).toNat) 0 (len i) = q0 := ftGo_at (p := fun q => s (mv i q).toNat) h1 h2 _ _ (Nat.zero_le _) (by omega)
  have hm0 := hv.m0 i q0 hi (by omega)
  have hm1 := hv.m1 i q0 hi (by omega)
  refine ⟨q0, by omega, e, ?_, ?_, ?_⟩
  · unfold nxt; rw [e]; omega
  · unfold nxt; rw [e]; omega
  · unfold nxt; rw [e]; exact h1
theorem pth_ok {n : Nat} {lost s : Nat → Bool} {len : Nat → Nat} {mv : Nat → Nat → Int} (hv : Okb n len mv) (hs : IsSafe n lost len mv s) {st : Nat} (hi : st < n) (h : s st = true) :
    ∀ k, pth s len mv st k < n ∧ s (pth s len mv st k) = true
  | 0 => ⟨hi, h⟩
  | k + 1 => by
    obtain ⟨h1, h2⟩ := pth_ok hv hs hi h k
    obtain ⟨q, -, -, -, h3, h4⟩ := nxt_ok hv hs h1 h2
    exact ⟨h3, h4⟩
/-- The way is left: after K states it comes back to one of them. -/
structure Turns (s : Nat → Bool) (len : Nat → Nat) (mv : Nat → Nat → Int) (st K : Nat) : Prop where
  far : ∀ k, k < K → hasB (pthI s len mv st) (pthI s len mv st k) k = false
  back : hasB (pthI s len mv st) (pthI s len mv st K) K = true
theorem own_isL {w : World} {B : Nat} {a : Option Addr} {k c : Nat} {f : Nat → Int} (h : w.ownsRow B 3 1 (.slice a k c) k ((List.range k).map fun q => .int .i64 (f q))) : IsL w a k f := by
  by_cases hk : k = 0
  · exact .inl hk
  · rcases h.2 with ⟨_, e⟩ | ⟨g, cap, cur, e, _⟩
    · exact absurd e hk
    · injection e with e1 _ e2
      subst e1 e2
      refine .inr ⟨g, 0, rfl, fun q hq => ?_⟩
      rw [Nat.zero_add, h.cellAt q (by omega), List.getElem?_map, List.getElem?_range hq]
      rfl
theorem own_cap {w : World} {B : Nat} {ty : TypeId} {a : Option Addr} {k c : Nat} {xs : List Value} (h : w.ownsRow B ty 1 (.slice a k c) k xs) : k ≤ c := by
  rcases h.2 with ⟨e, h0⟩ | ⟨g, cap, cur, e, _, _, hc, _⟩
  · omega
  · injection e with _ _ e2
    omega
/-- Not yet among the first k. -/
def notIn (s : Nat → Bool) (len : Nat → Nat) (mv : Nat → Nat → Int) (st k i : Nat) : Bool := !hasB (pthI s len mv st) (i : Int) k
theorem notIn_next {n : Nat} {s : Nat → Bool} {len : Nat → Nat} {mv : Nat → Nat → Int} {st k : Nat} (h : hasB (pthI s len mv st) (pthI s len mv st k) k = false) (hk : pth s len mv st k < n) :
    cnt n (notIn s len mv st (k + 1)) + 1 = cnt n (notIn s len mv st k) := by
  rw [← cnt_upd (notIn s len mv st k) (pth s len mv st k) (by show (!hasB (pthI s len mv st) (pthI s len mv st k) k) = true; rw [h]; rfl) n hk]
  congr 1
  refine cnt_le_cong n fun i hi => ?_
  unfold updB notIn
  rw [show hasB (pthI s len mv st) (i : Int) (k + 1) = (hasB (pthI s len mv st) (i : Int) k || decide (pthI s len mv st k = (i : Int))) from rfl]
  by_cases e : i = pth s len mv st k
  · subst e; simp [pthI]
  · have e' : ¬ pthI s len mv st k = (i : Int) := by unfold pthI; omega
    simp [e, e']
def WayOut (w : World) (n : Nat) (lost : Nat → Bool) (len : Nat → Nat) (mv : Nat → Nat → Int) (st : Nat) (e : Ending) (w' : World) : Prop :=
  ∃ (s : Nat → Bool), IsSafe n lost len mv s ∧ Below w.heap.size w w' ∧
    ((s st = false ∧ e = .returned (.slice none 0 0)) ∨
     (s st = true ∧ ∃ (K : Nat) (a : Option Addr) (c : Nat), Turns s len mv st K ∧ K + 1 ≤ c ∧ K ≤ 64 ∧ e = .returned (.slice a (K + 1) c) ∧ IsL w' a (K + 1) (pthI s len mv st)))
set_option maxRecDepth 100000 in
set_option maxHeartbeats 4000000 in
theorem way_ok {lb lo mb mo n lc mc : Nat} {lost : Nat → Bool} {P O C len : Nat → Nat} {mv : Nat → Nat → Int} (hv : Okb n len mv) (st : Nat) (hst : st < n) (w : World) (h : BIs w lb lo mb mo n lost P O C len mv) :
    Calls Try.prog 16 #[.agg (bv lb lo mb mo n lc mc), .int .i64 st] w (WayOut w n lost len mv st) := by
  have hmf : ∀ (fn : Fn) (first cap : Array Value) (w : World), (Instr.makeFunc fn first cap).run Try.prog w = .ok (.func fn first cap) w := fun _ _ _ _ => rfl
  have HE : Aside (∀ (args : Array Value) (w : World), (callFunc 35 args).run Try.prog w = .ok (.enter 35 args) w) := fun args w => call_enter Try.func35 (by kernel_rfl) (by kernel_rfl) args w
  have n1 := hv.n1
  have n2 := hv.n2
  have hst' : (st : Int) < n := by omega
  have hq0 : decide (n ≤ st) = false := by simpa using hst
  have hq1 : decide ((st : Int) < 0) = false := by simp
  obtain ⟨i2, hi, hz0, hz1, hz2⟩ := info_parts info_int
  have HI2 : Aside (Try.prog.info? 3 = some i2 ∧ i2.zero = some (.int .i64 0) ∧ i2.size = 1 ∧ i2.bytes = 8) := ⟨hi, hz0, hz1, hz2⟩
  clear hi hz0 hz1 hz2
  have HB : Aside (BIs w lb lo mb mo n lost P O C len mv) := h
  have HV : Aside (Okb n len mv) := hv
  clear h hv
  go_enter Try.func16, Try.ntmps16
  go_wp2_with fail
  obtain ⟨W, hW⟩ : ∃ W, W = w.alloc (.cells (bv lb lo mb mo n lc mc) 25) := ⟨_, rfl⟩
  have b0 : Below w.heap.size w W := by rw [hW]; go_grown
  have c0 : W.cell? ⟨w.heap.size, 0, none⟩ = some (.slice (some ⟨lb, lo, none⟩) n lc) := by rw [hW]; simp [go_sem]
  have c1 : W.cell? ⟨w.heap.size, 1, none⟩ = some (.slice (some ⟨mb, mo, none⟩) n mc) := by rw [hW]; simp [go_sem]
  rw [← hW]
  clear hW
  go_wp2_with fail
  refine (safe_ok HV.out W (HB.out.below b0)).mono ?_
  rintro e w1 ⟨a, s, rfl, hrow, -, hb1, hS⟩
  have d1 := (hb1.cell (p := ⟨_, _, _⟩) (lt_of_cell c1)).trans c1
  have HS : Aside (IsSafe n lost len mv s) := hS
  have HROW : Aside (∀ i, i < n → w1.cell? ⟨a, i, none⟩ = some (.bool (s i))) := hrow
  have hbw : Below w.heap.size w w1 := below_next b0 hb1
  clear hS hrow hb1 c0 c1
  go_upto_region 2 with fail
  obtain ⟨W1, hW1⟩ : ∃ W1, W1 = w1.alloc (.cells #[.slice (some ⟨a, 0, none⟩) n n] 22) := ⟨_, rfl⟩
  have b1 : Below w1.heap.size w1 W1 := by rw [hW1]; go_grown
  obtain ⟨sb, hsb⟩ : ∃ sb, sb = w1.heap.size := ⟨_, rfl⟩
  have e0 : W1.cell? ⟨sb, 0, none⟩ = some (.slice (some ⟨a, 0, none⟩) n n) := by rw [hW1, hsb]; simp [go_sem]
  have e1 := (b1.cell (p := ⟨_, _, _⟩) (lt_of_cell d1)).trans d1
  have HROW1 : Aside (∀ i, i < n → W1.cell? ⟨a, i, none⟩ = some (.bool (s i))) := fun i hi => (b1.cell (p := ⟨_, _, _⟩) (lt_of_cell (HROW.out i hi))).trans (HROW.out i hi)
  have hbw1 : Below w.heap.size w W1 := below_next hbw b1
  rw [← hW1, ← hsb]
  clear hW1 hsb HROW hbw b0 b1 d1
  have er := HROW1.out st hst
  obtain ⟨y, hy⟩ : ∃ y, y = s st := ⟨_, rfl⟩
  have HY : Aside (y = s st) := hy
  rw [← hy] at er
  clear hy
  cases y
  · go_wp2_with fail
    go_ret
    exact ⟨s, HS.out, hbw1, .inl ⟨HY.out.symm, rfl⟩⟩
  · clear er
    have er := HROW1.out st hst
    rw [← HY.out] at er
    go_upto_region 5 with fail
    go_wp2_with fail
    go_loopg [1, 7] (cnt n (notIn s len mv st 0)) (fun f v1 v7 wr => ∃ (k : Nat) (wa : Option Addr) (wc : Nat), v1 = .int .i64 (pthI s len mv st k) ∧ v7 = .slice wa k wc ∧ cnt n (notIn s len mv st k) = f ∧ wr.ownsRow W1.heap.size 3 1 (.slice wa k wc) k ((List.range k).map fun q => .int .i64 (pthI s len mv st q)) ∧ Below W1.heap.size W1 wr ∧ ∀ j, j < k → hasB (pthI s len mv st) (pthI s len mv st j) j = false)
    case atStart => exact ⟨0, none, 0, rfl, rfl, rfl, World.ownsRow_nil _ _ _ _, Below.refl _ _, fun j hj => absurd hj (by omega)⟩
    case round =>
      obtain ⟨k, wa, wc, rfl, rfl, hf, hown, hbx, hfar⟩ := hrel
      have HF : Aside (cnt n (notIn s len mv st k) = gk) := hf
      have HO : Aside (wr.ownsRow W1.heap.size 3 1 (.slice wa k wc) k ((List.range k).map fun q => .int .i64 (pthI s len mv st q))) := hown
      have HBX : Aside (Below W1.heap.size W1 wr) := hbx
      have HFAR : Aside (∀ j, j < k → hasB (pthI s len mv st) (pthI s len mv st j) j = false) := hfar
      have hk : k ≤ 64 := by
        have key : ∀ m, m ≤ k → cnt n (notIn s len mv st m) + m = cnt n (notIn s len mv st 0) := by
          intro m
          induction m with
          | zero => exact fun _ => rfl
          | succ m ih =>
            intro hm
            have := notIn_next (n := n) (hfar m (by omega)) (pth_ok HV.out HS.out hst HY.out.symm m).1
            have := ih (by omega)
            omega
        have := key k (Nat.le_refl _)
        have := cnt_le (notIn s len mv st 0) n
        omega
      clear hf hown hbx hfar
      obtain ⟨X, hX⟩ : ∃ X, X = pth s len mv st k := ⟨_, rfl⟩
      have HX : Aside (X = pth s len mv st k) := hX
      have hXn : X < n := by rw [hX]; exact (pth_ok HV.out HS.out hst HY.out.symm k).1
      have hXi : pthI s len mv st k = (X : Int) := by unfold pthI; rw [hX]
      have hXn' : (X : Int) < n := by omega
      have hCon := contains_l wa k wc (pthI s len mv st) (X : Int) wr (by omega) (own_isL HO.out)
      rw [hXi]
      obtain ⟨y, hy⟩ : ∃ y, y = hasB (pthI s len mv st) (X : Int) k := ⟨_, rfl⟩
      rw [← hy] at hCon
      have HH : Aside (hasB (pthI s len mv st) (pthI s len mv st k) k = y) := by show _ = _; rw [hXi, hy]
      have HC : Aside (Calls Try.prog 36 #[.slice wa k wc, .int .i64 (X : Int)] wr fun e w' => e = .returned (.bool y) ∧ wr = w') := hCon
      have HXI : Aside (pthI s len mv st k = (X : Int)) := hXi
      clear hy hCon hX hXi
      go_wp2_with fail
      refine HC.out.mono ?_
      rintro e w3 ⟨rfl, rfl⟩
      clear HC
      cases y
      · go_upto_region 8 with (at_builtin; refine wpList_append_own _ rfl (.tmp 31) (.tmp 33) 26 rfl W1.heap.size 3 i2 (.int .i64 0) 1 8 Try.underlying26 HI2.out.1 HI2.out.2.1 HI2.out.2.2.1 HI2.out.2.2.2 rfl (by decide) _ _ _ rfl (HO.out.alloc _) ⟨wr.heap.size, 0, none⟩ 1 1 [.int .i64 X] rfl rfl (cells1 _ _ _) oneI (by unfold maxLen; omega) (by omega) (by have := HBX.out.size; simp; omega) ?_; intro v' w5 hown' hgrow _; obtain ⟨wa', wc', rfl⟩ := own_slice hown'; have HB5 : Aside (Below W1.heap.size W1 w5) := (HBX.out.alloc HBX.out.size _).grown hgrow (by have := HBX.out.size; simp; omega) (fun k' e => (HO.out.lt k' e).1); have HO5 : Aside (w5.ownsRow W1.heap.size 3 1 (.slice wa' (k + 1) wc') (k + 1) ((List.range k).map (fun q => .int .i64 (pthI s len mv st q)) ++ [.int .i64 X])) := hown'; clear hown' hgrow)
        have g1 : w5.cell? ⟨w.heap.size, 1, none⟩ = some (.slice (some ⟨mb, mo, none⟩) n mc) := (HB5.out.cell (p := ⟨_, _, _⟩) (lt_of_cell e1)).trans e1
        have hB5 : BIs w5 lb lo mb mo n lost P O C len mv := HB.out.below (below_next hbw1 HB5.out)
        have g2 := hB5.moves X hXn
        have HBI : Aside (BIs w5 lb lo mb mo n lost P O C len mv) := hB5
        obtain ⟨q, hq, hft, hmq, hnn, -⟩ := nxt_ok HV.out HS.out hXn (by rw [HX.out]; exact (pth_ok HV.out HS.out hst HY.out.symm k).2)
        have hl4 := HV.out.l2 X hXn
        obtain ⟨L, hL⟩ : ∃ L, L = len X := ⟨_, rfl⟩
        have HL : Aside (L = len X) := hL
        rw [← hL] at g2 hl4 hq hft
        obtain ⟨Y, hY⟩ : ∃ Y, Y = nxt s len mv X := ⟨_, rfl⟩
        rw [← hY] at hmq
        have HYY : Aside (pth s len mv st (k + 1) = Y) := by show nxt s len mv (pth s len mv st k) = Y; rw [← HX.out, hY]
        have HFT : Aside (ftGo (fun q => s (mv X q).toNat) 0 L = q) := hft
        have HMQ : Aside (mv X q = (Y : Int)) := hmq
        clear hB5 hL hY hft hmq hnn er
        go_wp2_with fail
        have hI := indexFunc_any 35 HE.out (.pointer (some ⟨sb, 0, none⟩)) (fun j => s (mv X j).toNat) (P X) (O X) L (C X) (mv X) w5 (by omega) (fun j hj => HBI.out.mv X j hXn (by rw [← HL.out]; exact hj)) (fun j hj w2 hb2 => way1_int sb a n n s (mv X j) (HV.out.m0 X j hXn (by rw [← HL.out]; exact hj)) (HV.out.m1 X j hXn (by rw [← HL.out]; exact hj)) w2 (((HB5.out.trans (hb2.mono HB5.out.size)).cell (p := ⟨_, _, _⟩) (lt_of_cell e0)).trans e0) (fun i hi => ((HB5.out.trans (hb2.mono HB5.out.size)).cell (p := ⟨_, _, _⟩) (lt_of_cell (HROW1.out i hi))).trans (HROW1.out i hi)))
        refine hI.mono ?_
        rintro e w6 ⟨r, rfl, hb6, hr⟩
        have hrq : r = (q : Int) := by
          rcases hr with ⟨_, h⟩ | ⟨q', hq', rfl, h1, h2⟩
          · exfalso
            have := (pth_ok HV.out HS.out hst HY.out.symm (k + 1)).2
            rw [HYY.out] at this
            have h3 : s (mv X q).toNat = false := h q hq
            rw [HMQ.out, Int.toNat_natCast, this] at h3
            cases h3
          · rw [← HFT.out]
            exact congrArg _ (ftGo_at (p := fun q => s (mv X q).toNat) h1 h2 _ _ (Nat.zero_le _) (by omega)).symm
        rw [hrq]
        have HB6 : Aside (Below W1.heap.size W1 w6) := HB5.out.trans (hb6.mono HB5.out.size)
        have HO6 : Aside (w6.ownsRow W1.heap.size 3 1 (.slice wa' (k + 1) wc') (k + 1) ((List.range k).map (fun q => .int .i64 (pthI s len mv st q)) ++ [.int .i64 X])) := own_below HO5.out hb6
        have g3 : w6.cell? ⟨P X, O X + q, none⟩ = some (.int .i64 (Y : Int)) := by
          have h := (HBI.out.below hb6).mv X q hXn (by rw [← HL.out]; exact hq)
          rw [HMQ.out] at h
          exact h
        have hq' : (q : Int) < (L : Int) := by omega
        clear hI hr hrq hb6 g1 g2
        go_wp2_with fail
        go_roundg (cnt n (notIn s len mv st (k + 1)))
        case measure => rw [← HF.out]; have := notIn_next (n := n) HH.out (by rw [← HX.out]; exact hXn); omega
        case rel =>
          refine ⟨k + 1, wa', wc', by unfold pthI; rw [HYY.out], by simp, rfl, ?_, HB6.out, fun j hj => ?_⟩
          · rw [range_snoc, HXI.out]; exact HO6.out
          · rcases Nat.lt_succ_iff_lt_or_eq.1 hj with h | h
            · exact HFAR.out j h
            · subst h; exact HH.out
      · go_wp2_with (at_builtin; refine wpList_append_own _ rfl (.tmp 46) (.tmp 48) 26 rfl W1.heap.size 3 i2 (.int .i64 0) 1 8 Try.underlying26 HI2.out.1 HI2.out.2.1 HI2.out.2.2.1 HI2.out.2.2.2 rfl (by decide) _ _ _ rfl (HO.out.alloc _) ⟨wr.heap.size, 0, none⟩ 1 1 [.int .i64 X] rfl rfl (cells1 _ _ _) oneI (by unfold maxLen; omega) (by omega) (by have := HBX.out.size; simp; omega) ?_; intro v' w5 hown' hgrow _; obtain ⟨wa', wc', rfl⟩ := own_slice hown'; have HB5 : Aside (Below W1.heap.size W1 w5) := (HBX.out.alloc HBX.out.size _).grown hgrow (by have := HBX.out.size; simp; omega) (fun k' e => (HO.out.lt k' e).1); have HO5 : Aside (w5.ownsRow W1.heap.size 3 1 (.slice wa' (k + 1) wc') (k + 1) ((List.range k).map (fun q => .int .i64 (pthI s len mv st q)) ++ [.int .i64 X])) := hown'; clear hown' hgrow)
        go_ret
        refine ⟨s, HS.out, below_next hbw1 HB5.out, .inr ⟨HY.out.symm, k, wa', wc', ⟨HFAR.out, HH.out⟩, own_cap HO5.out, hk, by simp, own_isL (B := W1.heap.size) (c := wc') ?_⟩⟩
        rw [range_snoc, HXI.out]
        exact HO5.out
end Go.Proofs.Ytgohbjlfgiohiaa
